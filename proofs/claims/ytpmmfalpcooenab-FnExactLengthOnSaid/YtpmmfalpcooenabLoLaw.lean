/- The walk of the law of LengthOn. -/
import Derived.Test.YtpmmfalpcooenabLoLib
import Derived.Test.YtpmmfalpcooenabFiLib
namespace Go.Proofs.Ytpmmfalpcooenab.Ly
open Go.RowKit Ft Fs Ld Is Fc Cl Gd Gw Lo
open Fi (to_ints at_nums)

set_option maxRecDepth 100000 in
set_option maxHeartbeats 4000000 in
/-- Where both functions answer alike, the law returns true. -/
theorem core (A : Option Addr) (n c : Nat) (d : Nat → Int) (B : Option Addr) (m c' : Nat) (F : Nat → Nat → Int) (hn : n ≤ 1048576) (hm : m ≤ 1048576) (day p cd : Int) (w : World) (hA : Nums w w.heap.size A n d) (hB : Ints w w.heap.size 4 B m F)
    (CS : Hid (∀ A c B c' w, Nums w w.heap.size A n d → Ints w w.heap.size 4 B m F → Calls Try.prog 23 #[.slice A n c, .slice B m c', .int .i64 day] w (TwoAt p cd w)))
    (CI : Hid (∀ A c B c' w, Nums w w.heap.size A n d → Ints w w.heap.size 4 B m F → Calls Try.prog 24 #[.slice A n c, .slice B m c', .int .i64 day] w (TwoAt p cd w))) :
    Calls Try.prog 4 #[.slice A n c, .slice B m c', .int .i64 day] w fun e w' => e = .returned (.bool true) ∧ Below w.heap.size w w' := by
  have HA := Lib.hid hA
  have HB := Lib.hid hB
  have TI := Lib.hid (fun w h => to_ints A n c d hn w h)
  have n1 : (cd != cd) = false := by simp
  have n0 : (p != p) = false := by simp
  clear hA hB
  go_enter Try.func4, Try.ntmps4
  go_wp2_with fail
  refine (sz_small B m c' hm _).mono ?_
  rintro e w' ⟨rfl, rfl⟩
  go_wp2_with fail
  refine (TI.out _ HA.out).mono ?_
  rintro e w1 ⟨g1, rfl, _, H1, b1⟩
  have HB1 := Lib.hid b1
  have HN1 := Lib.hid (at_nums H1.out)
  clear b1
  go_wp2_with fail
  refine (to_feet B m c' F hm _ ((HB.out.below HB1.out (Nat.le_refl _)).more HB1.out.size)).mono ?_
  rintro e w2 ⟨g2, rfl, hg2, hl2, b2, hc2⟩
  have HI2 := Lib.hid (HB.out.of_copy hl2 hc2)
  have HB2 := Lib.hid (below_then HB1.out b2)
  have HN2 := Lib.hid ((HN1.out.below b2 (Nat.le_refl _)).more b2.size)
  clear hc2 b2 hg2 hl2
  go_wp2_with fail
  refine (CS.out _ _ _ _ _ HN2.out HI2.out).mono ?_
  rintro e w3 ⟨rfl, b3⟩
  have HB3 := Lib.hid (below_then HB2.out b3)
  clear b3
  go_wp2_with fail
  refine (TI.out _ ((HA.out.below HB3.out (Nat.le_refl _)).more HB3.out.size)).mono ?_
  rintro e w4 ⟨g4, rfl, _, H4, b4⟩
  have HB4 := Lib.hid (below_then HB3.out b4)
  have HN4 := Lib.hid (at_nums H4.out)
  clear b4
  go_wp2_with fail
  refine (to_feet B m c' F hm _ ((HB.out.below HB4.out (Nat.le_refl _)).more HB4.out.size)).mono ?_
  rintro e w5 ⟨g5, rfl, hg5, hl5, b5, hc5⟩
  have HI5 := Lib.hid (HB.out.of_copy hl5 hc5)
  have HB5 := Lib.hid (below_then HB4.out b5)
  have HN5 := Lib.hid ((HN4.out.below b5 (Nat.le_refl _)).more b5.size)
  clear hc5 b5 hg5 hl5
  go_wp2_with fail
  refine (CI.out _ _ _ _ _ HN5.out HI5.out).mono ?_
  rintro e w6 ⟨rfl, b6⟩
  have HB6 := Lib.hid (below_then HB5.out b6)
  have HN6 := Lib.hid ((HN5.out.below b6 (Nat.le_refl _)).more b6.size)
  have HI6 := Lib.hid ((HI5.out.below b6 (Nat.le_refl _)).more b6.size)
  clear b6
  go_wp2_with fail
  refine (TI.out _ ((HA.out.below HB6.out (Nat.le_refl _)).more HB6.out.size)).mono ?_
  rintro e w8 ⟨g8, rfl, _, H8, b8⟩
  have HB8 := Lib.hid (below_then HB6.out b8)
  have HN8 := Lib.hid (at_nums H8.out)
  have HX8 := Lib.hid ((HN6.out.below b8 (Nat.le_refl _)).more b8.size)
  have HI8 := Lib.hid ((HI6.out.below b8 (Nat.le_refl _)).more b8.size)
  clear b8
  go_wp2_with fail
  refine (eq_ints _ _ n _ _ d hn _ HX8.out HN8.out).mono ?_
  rintro e w9 ⟨rfl, b9⟩
  have HB9 := Lib.hid (below_then HB8.out b9)
  have HI9 := Lib.hid ((HI8.out.below b9 (Nat.le_refl _)).more b9.size)
  clear b9
  go_wp2_with fail
  refine (to_feet B m c' F hm _ ((HB.out.below HB9.out (Nat.le_refl _)).more HB9.out.size)).mono ?_
  rintro e w10 ⟨g10, rfl, hg10, hl10, b10, hc10⟩
  have HI10 := Lib.hid (HB.out.of_copy hl10 hc10)
  have HB10 := Lib.hid (below_then HB9.out b10)
  have HX10 := Lib.hid ((HI9.out.below b10 (Nat.le_refl _)).more b10.size)
  clear hc10 b10 hg10 hl10
  go_wp2_with fail
  refine (eq_feet _ _ m m m F hm _ HX10.out HI10.out).mono ?_
  rintro e w11 ⟨rfl, b11⟩
  have HB11 := Lib.hid (below_then HB10.out b11)
  clear b11
  go_wp2_with fail
  go_ret
  exact ⟨rfl, HB11.out⟩

/-- The law. -/
theorem law (A : Option Addr) (n c : Nat) (d : Nat → Int) (B : Option Addr) (m c' : Nat) (F : Nat → Nat → Int) (day : Int) (w : World) (hnm : n ≤ maxLen) (hA : Nums w w.heap.size A n d) (hB : Ints w w.heap.size 4 B m F) (_ : (Lit.int .i64 day).wf = true) :
    Calls Try.prog 4 #[.slice A n c, .slice B m c', .int .i64 day] w fun e w' => e = .returned (.bool true) ∧ Below w.heap.size w w' := by
  unfold maxLen at hnm
  by_cases hbig : 1048576 < n
  · clear hA hB
    go_enter Try.func4, Try.ntmps4
    go_wp2_with fail
    go_ret
    exact ⟨rfl, Below.refl _ _⟩
  have hn : n ≤ 1048576 := by omega
  by_cases hbig' : 1048576 < m
  · have hm := hB.1
    clear hA hB
    go_enter Try.func4, Try.ntmps4
    go_wp2_with fail
    refine (sz_big B m c' hbig' hm _).mono ?_
    rintro e w' ⟨rfl, rfl⟩
    go_wp2_with fail
    go_ret
    exact ⟨rfl, Below.refl _ _⟩
  have hm : m ≤ 1048576 := by omega
  cases hc : (codeD n d m F day != 0)
  · obtain ⟨rfl, ho, hr, h2, h3', h4'⟩ := code_zero hc
    have hz : codeD n d n F day = 0 := by simpa using hc
    exact core A n c d B n c' F hn hm day _ 0 w hA hB (Lib.hid fun A c B c' w h1 h3 => spec_on A B n c c' d F day hn hz ho hr h2 h3' h4' w h1 h3) (Lib.hid fun A c B c' w h1 h3 => impl_on A B n c c' d F day hn hz ho hr h2 h3' h4' w h1 h3)
  · exact core A n c d B m c' F hn hm day 0 (codeD n d m F day) w hA hB (Lib.hid fun A c B c' w h1 h3 => spec_on_no A B n c m c' d F day hn hm hc w h1 h3) (Lib.hid fun A c B c' w h1 h3 => impl_on_no A B n c m c' d F day hn hm hc w h1 h3)
end Go.Proofs.Ytpmmfalpcooenab.Ly
