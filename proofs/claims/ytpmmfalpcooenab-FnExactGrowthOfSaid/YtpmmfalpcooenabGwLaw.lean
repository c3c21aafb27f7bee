/- The walk of the law of GrowthOf. -/
import Derived.Test.YtpmmfalpcooenabGwLib
import Derived.Test.YtpmmfalpcooenabFiLib
namespace Go.Proofs.Ytpmmfalpcooenab.Gx
open Go.RowKit Ft Fs Ld Is Fc Cl Gd Gw
open Fi (to_ints at_nums)

theorem eq_frac (a b : Int) (w : World) : Calls Try.prog 20 #[.agg #[.int .i64 a, .int .i64 b], .agg #[.int .i64 a, .int .i64 b]] w fun e w' => e = .returned (.bool true) ∧ Below w.heap.size w w' := by
  have n0 : (a != a) = false := by simp
  have n1 : (b != b) = false := by simp
  go_enter Try.func20, Try.ntmps20
  go_wp2
  go_ret
  exact ⟨rfl, by repeat (first | exact Below.refl _ _ | exact below_box _ _ | refine Below.alloc ?_ (by simp <;> omega) _)⟩

set_option maxRecDepth 100000 in
set_option maxHeartbeats 4000000 in
/-- Where both functions answer alike, the law returns true. -/
theorem core (A : Option Addr) (n c : Nat) (d : Nat → Int) (B : Option Addr) (m c' : Nat) (F : Nat → Nat → Int) (hn : n ≤ 1048576) (hm : m ≤ 1048576) (p q cd : Int) (w : World) (hA : Nums w w.heap.size A n d) (hB : Ints w w.heap.size 4 B m F)
    (CS : Hid (∀ A c B c' w, Nums w w.heap.size A n d → Ints w w.heap.size 4 B m F → Calls Try.prog 16 #[.slice A n c, .slice B m c'] w (FracAt p q cd w)))
    (CI : Hid (∀ A c B c' w, Nums w w.heap.size A n d → Ints w w.heap.size 4 B m F → Calls Try.prog 19 #[.slice A n c, .slice B m c'] w (FracAt p q cd w))) :
    Calls Try.prog 3 #[.slice A n c, .slice B m c'] w fun e w' => e = .returned (.bool true) ∧ Below w.heap.size w w' := by
  have HA := Lib.hid hA
  have HB := Lib.hid hB
  have TI := Lib.hid (fun w h => to_ints A n c d hn w h)
  have n1 : (cd != cd) = false := by simp
  clear hA hB
  go_enter Try.func3, Try.ntmps3
  go_wp2_with fail
  refine (sz_small B m c' hm _).mono ?_
  rintro e w' ⟨rfl, rfl⟩
  go_wp2_with fail
  refine (TI.out _ HA.out).mono ?_
  rintro e w1 ⟨g1, rfl, _, H1, b1⟩
  have HB1 := Lib.hid b1
  have HN1 := Lib.hid (at_nums H1.out)
  clear b1
  go_wp2_with fail
  refine (to_feet B m c' F hm _ ((HB.out.below HB1.out (Nat.le_refl _)).more HB1.out.size)).mono ?_
  rintro e w2 ⟨g2, rfl, hg2, hl2, b2, hc2⟩
  have HI2 := Lib.hid (HB.out.of_copy hl2 hc2)
  have HB2 := Lib.hid (below_then HB1.out b2)
  have HN2 := Lib.hid ((HN1.out.below b2 (Nat.le_refl _)).more b2.size)
  clear hc2 b2 hg2 hl2
  go_wp2_with fail
  refine (CS.out _ _ _ _ _ HN2.out HI2.out).mono ?_
  rintro e w3 ⟨rfl, b3⟩
  have HB3 := Lib.hid (below_then HB2.out b3)
  clear b3
  have KW3 : Hid ((w3.alloc (.cells #[.int .i64 p, .int .i64 q] 26)).heap[w3.heap.size]? = some (.cells #[.int .i64 p, .int .i64 q] 26 (0, 0))) := Lib.hid (heap_alloc_new _ _)
  have HB3' := Lib.hid (HB3.out.alloc HB3.out.size (.cells #[.int .i64 p, .int .i64 q] 26))
  go_wp2_with fail
  generalize hs3 : w3.heap.size = s3 at KW3 ⊢
  generalize w3.alloc (.cells #[.int .i64 p, .int .i64 q] 26) = w3' at KW3 HB3' ⊢
  refine (TI.out _ ((HA.out.below HB3'.out (Nat.le_refl _)).more HB3'.out.size)).mono ?_
  rintro e w4 ⟨g4, rfl, _, H4, b4⟩
  have HB4 := Lib.hid (below_then HB3'.out b4)
  have HN4 := Lib.hid (at_nums H4.out)
  have KW4 := Lib.hid (blk_keep b4 KW3.out)
  clear b4
  go_wp2_with fail
  refine (to_feet B m c' F hm _ ((HB.out.below HB4.out (Nat.le_refl _)).more HB4.out.size)).mono ?_
  rintro e w5 ⟨g5, rfl, hg5, hl5, b5, hc5⟩
  have HI5 := Lib.hid (HB.out.of_copy hl5 hc5)
  have HB5 := Lib.hid (below_then HB4.out b5)
  have HN5 := Lib.hid ((HN4.out.below b5 (Nat.le_refl _)).more b5.size)
  have KW5 := Lib.hid (blk_keep b5 KW4.out)
  clear hc5 b5 hg5 hl5
  go_wp2_with fail
  refine (CI.out _ _ _ _ _ HN5.out HI5.out).mono ?_
  rintro e w6 ⟨rfl, b6⟩
  have HB6 := Lib.hid (below_then HB5.out b6)
  have KW6 := Lib.hid (blk_keep b6 KW5.out)
  have HN6 := Lib.hid ((HN5.out.below b6 (Nat.le_refl _)).more b6.size)
  have HI6 := Lib.hid ((HI5.out.below b6 (Nat.le_refl _)).more b6.size)
  have hl6 := lt_of_heap KW6.out
  clear b6
  obtain ⟨p0, p1⟩ := blk2 KW6.out
  go_wp2_with fail
  refine (eq_frac p q _).mono ?_
  rintro e w7 ⟨rfl, b7⟩
  have HB7 := Lib.hid (below_then (HB6.out.alloc HB6.out.size _) b7)
  have b7' := (below_box w6 (.cells #[.int .i64 p, .int .i64 q] 26)).trans (b7.mono (by simp))
  have z7 : w6.heap.size ≤ w7.heap.size := b7'.size
  have HN7 := Lib.hid ((HN6.out.below b7' (Nat.le_refl _)).more z7)
  have HI7 := Lib.hid ((HI6.out.below b7' (Nat.le_refl _)).more z7)
  clear b7 b7' p0 p1
  go_wp2_with fail
  refine (TI.out _ ((HA.out.below HB7.out (Nat.le_refl _)).more HB7.out.size)).mono ?_
  rintro e w8 ⟨g8, rfl, _, H8, b8⟩
  have HB8 := Lib.hid (below_then HB7.out b8)
  have HN8 := Lib.hid (at_nums H8.out)
  have HX8 := Lib.hid ((HN7.out.below b8 (Nat.le_refl _)).more b8.size)
  have HI8 := Lib.hid ((HI7.out.below b8 (Nat.le_refl _)).more b8.size)
  clear b8
  go_wp2_with fail
  refine (eq_ints _ _ n _ _ d hn _ HX8.out HN8.out).mono ?_
  rintro e w9 ⟨rfl, b9⟩
  have HB9 := Lib.hid (below_then HB8.out b9)
  have HI9 := Lib.hid ((HI8.out.below b9 (Nat.le_refl _)).more b9.size)
  clear b9
  go_wp2_with fail
  refine (to_feet B m c' F hm _ ((HB.out.below HB9.out (Nat.le_refl _)).more HB9.out.size)).mono ?_
  rintro e w10 ⟨g10, rfl, hg10, hl10, b10, hc10⟩
  have HI10 := Lib.hid (HB.out.of_copy hl10 hc10)
  have HB10 := Lib.hid (below_then HB9.out b10)
  have HX10 := Lib.hid ((HI9.out.below b10 (Nat.le_refl _)).more b10.size)
  clear hc10 b10 hg10 hl10
  go_wp2_with fail
  refine (eq_feet _ _ m m m F hm _ HX10.out HI10.out).mono ?_
  rintro e w11 ⟨rfl, b11⟩
  have HB11 := Lib.hid (below_then HB10.out b11)
  clear b11
  go_wp2_with fail
  go_ret
  exact ⟨rfl, HB11.out⟩

/-- The law. -/
theorem law (A : Option Addr) (n c : Nat) (d : Nat → Int) (B : Option Addr) (m c' : Nat) (F : Nat → Nat → Int) (w : World) (hnm : n ≤ maxLen) (hA : Nums w w.heap.size A n d) (hB : Ints w w.heap.size 4 B m F) :
    Calls Try.prog 3 #[.slice A n c, .slice B m c'] w fun e w' => e = .returned (.bool true) ∧ Below w.heap.size w w' := by
  unfold maxLen at hnm
  by_cases hbig : 1048576 < n
  · clear hA hB
    go_enter Try.func3, Try.ntmps3
    go_wp2_with fail
    go_ret
    exact ⟨rfl, Below.refl _ _⟩
  have hn : n ≤ 1048576 := by omega
  by_cases hbig' : 1048576 < m
  · have hm := hB.1
    clear hA hB
    go_enter Try.func3, Try.ntmps3
    go_wp2_with fail
    refine (sz_big B m c' hbig' hm _).mono ?_
    rintro e w' ⟨rfl, rfl⟩
    go_wp2_with fail
    go_ret
    exact ⟨rfl, Below.refl _ _⟩
  have hm : m ≤ 1048576 := by omega
  cases hc : (codeD n d m F 0 != 0)
  · obtain ⟨rfl, ho, hr, h2, _, _⟩ := code_zero hc
    have hz : codeD n d n F 0 = 0 := by simpa using hc
    exact core A n c d B n c' F hn hm _ _ 0 w hA hB (Lib.hid fun A c B c' w h1 h3 => spec_grow A B n c c' d F hn hz ho hr h2 w h1 h3) (Lib.hid fun A c B c' w h1 h3 => impl_grow A B n c c' d F hn hz ho hr h2 w h1 h3)
  · exact core A n c d B m c' F hn hm 0 0 (codeD n d m F 0) w hA hB (Lib.hid fun A c B c' w h1 h3 => spec_grow_no A B n c m c' d F hn hm hc w h1 h3) (Lib.hid fun A c B c' w h1 h3 => impl_grow_no A B n c m c' d F hn hm hc w h1 h3)
end Go.Proofs.Ytpmmfalpcooenab.Gx
