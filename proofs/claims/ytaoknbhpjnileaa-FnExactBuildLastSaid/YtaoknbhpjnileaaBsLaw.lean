/- The walk of the law of BuildLast. -/
import Derived.Test.YtaoknbhpjnileaaBrLib
import Derived.Test.YtaoknbhpjnileaaFiLib
import Derived.Test.YtaoknbhpjnileaaAgLib
import Derived.Deep.DeepCutAuto
namespace Go.Proofs.Ytaoknbhpjnileaa.Bs
open Go.RowKit Ft Is Ge Qb La Fi
set_option linter.unusedVariables false

set_option maxRecDepth 100000 in
set_option maxHeartbeats 4000000 in
theorem core (s : ByteArray) (x : Nat → Int) (gi : Int) (A : Option Addr) (n c : Nat) (d : Nat → Int) (w : World) (hs : s.size ≤ maxLen) (hz : s.size ≤ 1048576) (hn : n ≤ 1048576) (hA : Nums w w.heap.size A n d) :
    Calls Try.prog 10 #[laV s x, .int .i64 gi, .slice A n c] w fun e w' => e = .returned (.bool true) ∧ Below w.heap.size w w' := by
  have HA := Lib.hid hA
  have CZ := Lib.hid (fun w => sz_last s x 1048576 (by omega) (by omega) w)
  have CT := Lib.hid (fun w => to_last s x w)
  have TI := Lib.hid (fun w h => to_ints A n c d hn w h)
  have QI := Lib.hid (fun A1 A2 c1 c2 w h1 h2 => eq_ints A1 A2 n c1 c2 d hn w h1 h2)
  have CS := Lib.hid (fun A c w h => Bq.spec_bl s x gi A n c d hs hn w h)
  have CI := Lib.hid (fun A c w h => Bq.impl_bl s x gi A n c d hs hn w h)
  have hj : (0 : Int) ≤ 1048576 - (s.size : Int) := by omega
  unfold Bq.BlAt at CS CI
  generalize Bq.blS s x gi n d = S at CS CI
  generalize Bq.blM s x gi n d = m at CS CI
  generalize Bq.blC s x gi n d = cd at CS CI
  have CE := Lib.hid (fun w => eq_last_same S m w)
  have ne_cd : (cd != cd) = false := by simp
  simp only [laV] at CS CI CE CT CZ ⊢
  generalize hm0 : m 0 = m0, m 1 = m1, m 2 = m2, m 3 = m3, m 4 = m4 at *
  clear hm0
  have KX := Lib.hid (heap_alloc_new w (.cells #[.string s, .int .i64 (x 0), .int .i64 (x 1), .int .i64 (x 2), .int .i64 (x 3), .int .i64 (x 4)] 27))
  have B0 := Lib.hid (below_box w (.cells #[.string s, .int .i64 (x 0), .int .i64 (x 1), .int .i64 (x 2), .int .i64 (x 3), .int .i64 (x 4)] 27))
  clear hA
  go_enter Try.func10, Try.ntmps10
  go_upto_region 1 with fail
  generalize hw0 : w.alloc _ = w0 at KX B0 ⊢
  clear hw0
  obtain ⟨v0, v1, v2, v3, v4, v5⟩ := blk6 KX.out
  go_wp2_with fail
  refine (CZ.out _).mono ?_
  rintro e w1 ⟨rfl, b1⟩
  have B1 := Lib.hid (below_then B0.out b1)
  have KX1 := Lib.hid (blk_keep b1 KX.out)
  clear b1 v0 v1 v2 v3 v4 v5 KX B0 CZ
  obtain ⟨v0, v1, v2, v3, v4, v5⟩ := blk6 KX1.out
  go_wp2_with fail
  refine (CT.out _).mono ?_
  rintro e w2 ⟨rfl, b2⟩
  have B2 := Lib.hid (below_then B1.out b2)
  have KX2 := Lib.hid (blk_keep b2 KX1.out)
  clear b2 v0 v1 v2 v3 v4 v5 KX1 B1
  go_wp2_with fail
  refine (TI.out _ ((HA.out.below B2.out (Nat.le_refl _)).more B2.out.size)).mono ?_
  rintro e w3 ⟨g3, rfl, hg3, a3, b3⟩
  have B3 := Lib.hid (below_then B2.out b3)
  have KX3 := Lib.hid (blk_keep b3 KX2.out)
  have I3 := Lib.hid (at_nums a3.out)
  clear b3 hg3 a3 KX2 B2
  go_wp2_with fail
  refine (CS.out _ _ _ I3.out).mono ?_
  rintro e w4 ⟨rfl, b4⟩
  have B4 := Lib.hid (below_then B3.out b4)
  have KX4 := Lib.hid (blk_keep b4 KX3.out)
  clear b4 KX3 B3 I3 CS
  have B5 := Lib.hid (below_then B4.out (below_box w4 (.cells #[.string S, .int .i64 m0, .int .i64 m1, .int .i64 m2, .int .i64 m3, .int .i64 m4] 33)))
  have KX5 := Lib.hid (blk_keep (below_box w4 (.cells #[.string S, .int .i64 m0, .int .i64 m1, .int .i64 m2, .int .i64 m3, .int .i64 m4] 33)) KX4.out)
  have KS5 := Lib.hid (heap_alloc_new w4 (.cells #[.string S, .int .i64 m0, .int .i64 m1, .int .i64 m2, .int .i64 m3, .int .i64 m4] 33))
  go_upto_region 8 with fail
  generalize hw5 : w4.alloc _ = w5 at B5 KX5 KS5 ⊢
  generalize w4.heap.size = gs at KS5 ⊢
  clear hw5 KX4 B4
  go_wp2_with fail
  refine (TI.out _ ((HA.out.below B5.out (Nat.le_refl _)).more B5.out.size)).mono ?_
  rintro e w6 ⟨g6, rfl, hg6, a6, b6⟩
  have B6 := Lib.hid (below_then B5.out b6)
  have KX6 := Lib.hid (blk_keep b6 KX5.out)
  have KS6 := Lib.hid (blk_keep b6 KS5.out)
  have I6 := Lib.hid (at_nums a6.out)
  clear b6 hg6 a6 KX5 KS5 B5
  obtain ⟨v0, v1, v2, v3, v4, v5⟩ := blk6 KX6.out
  go_wp2_with fail
  refine (CT.out _).mono ?_
  rintro e w7 ⟨rfl, b7⟩
  have B7 := Lib.hid (below_then B6.out b7)
  have KS7 := Lib.hid (blk_keep b7 KS6.out)
  have I7 := Lib.hid ((I6.out.below b7 (Nat.le_refl _)).more b7.size)
  clear b7 v0 v1 v2 v3 v4 v5 KX6 KS6 B6 I6
  go_wp2_with fail
  refine (CI.out _ _ _ I7.out).mono ?_
  rintro e w8 ⟨rfl, b8⟩
  have B8 := Lib.hid (below_then B7.out b8)
  have KS8 := Lib.hid (blk_keep b8 KS7.out)
  have I8 := Lib.hid ((I7.out.below b8 (Nat.le_refl _)).more b8.size)
  clear b8 KS7 B7 I7 CI
  have B9 := Lib.hid (below_then B8.out (below_box w8 (.cells #[.string S, .int .i64 m0, .int .i64 m1, .int .i64 m2, .int .i64 m3, .int .i64 m4] 33)))
  have KS9 := Lib.hid (blk_keep (below_box w8 (.cells #[.string S, .int .i64 m0, .int .i64 m1, .int .i64 m2, .int .i64 m3, .int .i64 m4] 33)) KS8.out)
  have KI9 := Lib.hid (heap_alloc_new w8 (.cells #[.string S, .int .i64 m0, .int .i64 m1, .int .i64 m2, .int .i64 m3, .int .i64 m4] 33))
  have I9 := Lib.hid ((I8.out.below (below_box w8 (.cells #[.string S, .int .i64 m0, .int .i64 m1, .int .i64 m2, .int .i64 m3, .int .i64 m4] 33)) (Nat.le_refl _)).more (below_box w8 (.cells #[.string S, .int .i64 m0, .int .i64 m1, .int .i64 m2, .int .i64 m3, .int .i64 m4] 33)).size)
  go_upto_region 10 with fail
  generalize hw9 : w8.alloc _ = w9 at B9 KS9 KI9 I9 ⊢
  generalize w8.heap.size = gq at KI9 ⊢
  clear hw9 KS8 B8 I8
  obtain ⟨v0, v1, v2, v3, v4, v5⟩ := blk6 KS9.out
  obtain ⟨u0, u1, u2, u3, u4, u5⟩ := blk6 KI9.out
  go_wp2_with fail
  refine (CE.out _).mono ?_
  rintro e w10 ⟨rfl, b10⟩
  have B10 := Lib.hid (below_then B9.out b10)
  have I10 := Lib.hid ((I9.out.below b10 (Nat.le_refl _)).more b10.size)
  clear b10 v0 v1 v2 v3 v4 v5 u0 u1 u2 u3 u4 u5 KS9 KI9 B9 I9
  go_wp2_with fail
  refine (TI.out _ ((HA.out.below B10.out (Nat.le_refl _)).more B10.out.size)).mono ?_
  rintro e w11 ⟨g11, rfl, hg11, a11, b11⟩
  have B11 := Lib.hid (below_then B10.out b11)
  have I11 := Lib.hid ((I10.out.below b11 (Nat.le_refl _)).more b11.size)
  have J11 := Lib.hid (at_nums a11.out)
  clear b11 hg11 a11 B10 I10
  go_wp2_with fail
  refine (QI.out _ _ _ _ _ I11.out J11.out).mono ?_
  rintro e w12 ⟨rfl, b12⟩
  have B12 := Lib.hid (below_then B11.out b12)
  clear b12
  go_wp2_with fail
  go_ret
  exact ⟨rfl, B12.out⟩
/-- Numbers, by place. -/
def of5 (a b c d e : Int) : Nat → Int
  | 0 => a
  | 1 => b
  | 2 => c
  | 3 => d
  | _ => e
theorem law (s : ByteArray) (l b i h q : Int) (gi : Int) (A : Option Addr) (n c : Nat) (d : Nat → Int) (w : World) (hs : s.size ≤ maxLen) (_ : (Lit.int .i64 l).wf = true) (_ : (Lit.int .i64 b).wf = true) (_ : (Lit.int .i64 i).wf = true) (_ : (Lit.int .i64 h).wf = true) (_ : (Lit.int .i64 q).wf = true)
    (_ : (Lit.int .i64 gi).wf = true) (hm : n ≤ maxLen) (hA : Nums w w.heap.size A n d) :
    Calls Try.prog 10 #[.agg #[.string s, .int .i64 l, .int .i64 b, .int .i64 i, .int .i64 h, .int .i64 q], .int .i64 gi, .slice A n c] w fun e w' => e = .returned (.bool true) ∧ Below w.heap.size w w' := by
  show Calls Try.prog 10 #[laV s (of5 l b i h q), .int .i64 gi, .slice A n c] w _
  generalize of5 l b i h q = x
  have HW := Lib.hid (below_box w (laC s x 27))
  by_cases hb0 : 1048576 < n
  · unfold maxLen at hm
    clear hA
    go_enter Try.func10, Try.ntmps10
    go_wp2_with fail
    go_ret
    exact ⟨rfl, HW.out⟩
  by_cases hbig : 1048576 < s.size
  · have C := Lib.hid (fun w => sz_last_big s x 1048576 (by omega) hs (by omega) (by omega) w)
    clear hA
    go_enter Try.func10, Try.ntmps10
    go_wp2_with fail
    refine (C.out _).mono ?_
    rintro e w1 ⟨rfl, b1⟩
    have HB := Lib.hid (below_then HW.out b1)
    clear b1
    go_wp2_with fail
    go_ret
    exact ⟨rfl, HB.out⟩
  exact core s x gi A n c d w hs (by omega) (by omega) hA
end Go.Proofs.Ytaoknbhpjnileaa.Bs
