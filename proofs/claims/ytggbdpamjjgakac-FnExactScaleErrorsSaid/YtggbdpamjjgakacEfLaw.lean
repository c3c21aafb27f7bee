/- The walk of the law of ScaleErrors. -/
import Derived.Test.YtggbdpamjjgakacEgLib
namespace Go.Proofs.Ytggbdpamjjgakac.Ef
open Go.RowKit Ft Is Ge Qb Le On Lc Fg Gm

set_option maxRecDepth 100000 in
set_option maxHeartbeats 4000000 in
/-- Where both functions answer alike, the law returns true. -/
theorem core (A : Option Addr) (n c : Nat) (f : Nat → Int) (num den : Int) (hn : n ≤ 1048576) (m : Nat) (hm : m ≤ 1048576) (d : Nat → Int) (cd : Int) (w : World) (hA : Nums w w.heap.size A n f)
    (CS : Hid (∀ A c w, Nums w w.heap.size A n f → Calls Try.prog 12 #[.slice A n c, .int .i64 num, .int .i64 den] w (PairF m d cd w)))
    (CI : Hid (∀ A c w, Nums w w.heap.size A n f → Calls Try.prog 14 #[.slice A n c, .int .i64 num, .int .i64 den] w (PairF m d cd w))) :
    Calls Try.prog 4 #[.slice A n c, .int .i64 num, .int .i64 den] w fun e w' => e = .returned (.bool true) ∧ Below w.heap.size w w' := by
  have HA := Lib.hid hA
  have TI := Lib.hid (fun w h => to_ints A n c f hn w h)
  have MK := Lib.hid (fun A cap B w h => mark_frs A m cap 1 d hm (by omega) (by omega) B w h)
  have HE := Lib.hid (fun A cap B w h => held_frs A m cap 1 hm (by omega) (by omega) B w h)
  have hM : 0 ≤ mk 1 (m * 2) := by unfold mk; omega
  generalize mk 1 (m * 2) = M at MK HE hM
  have n1 : (cd != cd) = false := by simp
  have n2 : (M != M) = false := by simp
  clear hA
  go_enter Try.func4, Try.ntmps4
  go_wp2_with fail
  refine (TI.out _ HA.out).mono ?_
  rintro e w1 ⟨g1, rfl, hg1, H1, b1⟩
  have HI1 := Lib.hid (at_nums H1.out)
  have HB1 := Lib.hid b1
  clear b1 hg1 H1
  go_wp2_with fail
  refine (CS.out _ _ _ HI1.out).mono ?_
  rintro e w2 ⟨A2, cap2, rfl, HO2, b2⟩
  have HN2 := Lib.hid HO2.out.nums
  have HB2 := Lib.hid (below_then HB1.out b2)
  clear b2 HO2 HI1 HB1 CS
  go_wp2_with fail
  refine (TI.out _ ((HA.out.below HB2.out (Nat.le_refl _)).more HB2.out.size)).mono ?_
  rintro e w3 ⟨g3, rfl, hg3, H3, b3⟩
  have HB3 := Lib.hid (below_then HB2.out b3)
  have HN3 := Lib.hid (HN2.out.below b3 (Nat.le_refl _))
  have hl3 := H3.out.1
  clear b3 HN2
  go_wp2_with fail
  refine (CI.out _ _ _ (at_nums H3.out)).mono ?_
  rintro e w4 ⟨A4, cap4, rfl, HO4, b4⟩
  have HB4 := Lib.hid (below_then HB3.out b4)
  have H4 := Lib.hid (H3.out.below b4)
  have HN4 := Lib.hid (HN3.out.below b4 (by omega))
  clear b4 H3 HN3
  go_wp2_with fail
  refine (eq_frs A4 A2 m cap4 cap2 d hm _ HO4.out.nums (HN4.out.more (by have := H4.out.1; omega))).mono ?_
  rintro e w5 ⟨rfl, b5⟩
  have HB5 := Lib.hid (below_then HB4.out b5)
  have H5 := Lib.hid (H4.out.below b5)
  have HO5 := Lib.hid (HO4.out.below b5)
  have HN5 := Lib.hid (HN4.out.below b5 (by have := H4.out.1; omega))
  clear b5 H4 HO4 HN4
  go_wp2_with fail
  refine (TI.out _ ((HA.out.below HB5.out (Nat.le_refl _)).more HB5.out.size)).mono ?_
  rintro e w6 ⟨g6, rfl, hg6, H6, b6⟩
  have HB6 := Lib.hid (below_then HB5.out b6)
  have HI6 := Lib.hid (at_nums H6.out)
  have HI7 := Lib.hid ((at_nums H5.out).below b6 (Nat.le_refl _) |>.more b6.size)
  have H7 := Lib.hid (H5.out.below b6)
  have HO6 := Lib.hid (HO5.out.below b6)
  have HN6 := Lib.hid (HN5.out.below b6 (by have := H5.out.1; omega))
  clear b6 hg6 H6 H5 HO5 HN5
  go_wp2_with fail
  refine (eq_ints _ _ n n n f hn _ HI7.out HI6.out).mono ?_
  rintro e w7 ⟨rfl, b7⟩
  have HB7 := Lib.hid (below_then HB6.out b7)
  have H8 := Lib.hid (H7.out.below b7)
  have HO7 := Lib.hid (HO6.out.below b7)
  have HN7 := Lib.hid (HN6.out.below b7 (by have := H7.out.1; omega))
  clear b7 HI7 HI6 H7 HO6 HN6
  go_wp2_with fail
  refine (mark_at g3 n n 1 f hn (by omega) (by omega) _ H8.out).mono ?_
  rintro e w8 ⟨rfl, t8⟩
  have HB8 := Lib.hid (HB7.out.trans (t8.below (by have := HB2.out.size; omega) HB7.out.size))
  have HO8 := Lib.hid (t8.own HO7.out hl3)
  have HN8 := Lib.hid (t8.nums HN7.out hg3)
  have hs8 := t8.size
  have hg8 := H8.out.1
  clear t8 HO7 HN7 H8
  go_wp2_with fail
  refine (eq_frs A4 A2 m cap4 cap2 d hm _ HO8.out.nums (HN8.out.more (by omega))).mono ?_
  rintro e w9 ⟨rfl, b9⟩
  have HB9 := Lib.hid (below_then HB8.out b9)
  have HO9 := Lib.hid (HO8.out.below b9)
  have HN9 := Lib.hid (HN8.out.below b9 (by omega))
  have hs9 := b9.size
  clear b9 HO8 HN8
  go_wp2_with fail
  refine (MK.out A4 cap4 _ _ HO9.out).mono ?_
  rintro e w10 ⟨rfl, hm10, b10⟩
  have HB10 := Lib.hid (HB9.out.trans (b10.mono (by have := HB3.out.size; omega)))
  have HO10 := Lib.hid hm10
  have HN10 := Lib.hid (HN9.out.below b10 (by omega))
  have hs10 := b10.size
  clear b10 hm10 HN9 HO9
  go_wp2_with fail
  refine (HE.out A4 cap4 _ _ HO10.out.nums).mono ?_
  rintro e wq ⟨rfl, rfl⟩
  go_wp2_with fail
  refine (TI.out _ ((HA.out.below HB10.out (Nat.le_refl _)).more HB10.out.size)).mono ?_
  rintro e w11 ⟨g11, rfl, hg11, H11, b11⟩
  have HB11 := Lib.hid (below_then HB10.out b11)
  have HI11 := Lib.hid (at_nums H11.out)
  have HO11 := Lib.hid (HO10.out.below b11)
  have HN11 := Lib.hid (HN10.out.below b11 (by omega))
  have hs11 := b11.size
  clear b11 hg11 H11 HO10 HN10
  go_wp2_with fail
  refine (CI.out _ _ _ HI11.out).mono ?_
  rintro e w12 ⟨A12, cap12, rfl, HO12, b12⟩
  have HB12 := Lib.hid (below_then HB11.out b12)
  have HM12 := Lib.hid (HO11.out.below b12)
  have HN12 := Lib.hid (HN11.out.below b12 (by omega))
  have hs12 := b12.size
  clear b12 HO11 HN11
  go_wp2_with fail
  refine (eq_frs A12 A2 m cap12 cap2 d hm _ HO12.out.nums (HN12.out.more (by omega))).mono ?_
  rintro e w13 ⟨rfl, b13⟩
  have HB13 := Lib.hid (below_then HB12.out b13)
  have HM13 := Lib.hid (HM12.out.below b13)
  clear b13 HM12 HN12
  go_wp2_with fail
  refine (HE.out A4 cap4 _ _ HM13.out.nums).mono ?_
  rintro e wq ⟨rfl, rfl⟩
  go_wp2_with fail
  go_ret
  exact ⟨rfl, HB13.out⟩
/-- The law. -/
theorem law (A : Option Addr) (n c : Nat) (f : Nat → Int) (num den : Int) (w : World) (hm : n ≤ maxLen) (hA : Nums w w.heap.size A n f) (_ : (Lit.int .i64 num).wf = true) (_ : (Lit.int .i64 den).wf = true) : Calls Try.prog 4 #[.slice A n c, .int .i64 num, .int .i64 den] w fun e w' => e = .returned (.bool true) ∧ Below w.heap.size w w' := by
  by_cases hbig : 1048576 < n
  · unfold maxLen at hm
    clear hA
    go_enter Try.func4, Try.ntmps4
    go_wp2_with fail
    go_ret
    exact ⟨rfl, Below.refl _ _⟩
  have hn : n ≤ 1048576 := by omega
  cases hc : rt n f num den
  · exact core A n c f num den hn 0 (by omega) (fun _ => 0) 2 w hA (Lib.hid fun A c w h => spec_se_no A n c f num den hn hc w h) (Lib.hid fun A c w h => impl_se_no A n c f num den hn hc w h)
  · have ho := rt_iff hc
    exact core A n c f num den hn n hn _ 0 w hA (Lib.hid fun A c w h => spec_se A n c f num den hn ho w h) (Lib.hid fun A c w h => impl_se A n c f num den hn ho w h)
end Go.Proofs.Ytggbdpamjjgakac.Ef
