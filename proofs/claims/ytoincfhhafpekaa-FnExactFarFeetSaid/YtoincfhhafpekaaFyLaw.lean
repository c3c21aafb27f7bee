/- The walk of the law of FarFeet. -/
import Derived.Test.YtoincfhhafpekaaFlLib
import Derived.Test.YtoincfhhafpekaaBtLib
namespace Go.Proofs.Ytoincfhhafpekaa.Fy
open Go.RowKit Ft Fs Ld Is Fc Cl Me Fl Bt

set_option maxRecDepth 100000 in
set_option maxHeartbeats 4000000 in
/-- Where both functions answer alike, the law returns true. -/
theorem core (A : Option Addr) (n c : Nat) (F : Nat → Nat → Int) (most : Int) (hn : n ≤ 1048576) (m : Nat) (hm : m ≤ 1048576) (d : Nat → Int) (cd : Int) (w : World) (hA : Ints w w.heap.size 4 A n F)
    (CS : Hid (∀ A c w, Ints w w.heap.size 4 A n F → Calls Try.prog 21 #[.slice A n c, .int .i64 most] w (PairAt m d cd w)))
    (CI : Hid (∀ A c w, Ints w w.heap.size 4 A n F → Calls Try.prog 22 #[.slice A n c, .int .i64 most] w (PairAt m d cd w))) :
    Calls Try.prog 4 #[.slice A n c, .int .i64 most] w fun e w' => e = .returned (.bool true) ∧ Below w.heap.size w w' := by
  have HA := Lib.hid hA
  have MK := Lib.hid (fun A cap B w h => mark_ints A m cap 1 d hm (by omega) (by omega) B w h)
  have HE := Lib.hid (fun A cap B w h => held_ints A m cap 1 hm (by omega) (by omega) B w h)
  have hM : 0 ≤ mk 1 m := by unfold mk; omega
  generalize mk 1 m = M at MK HE hM
  clear hA
  go_enter Try.func4, Try.ntmps4
  go_wp2_with fail
  refine (sz_small A n c hn _).mono ?_
  rintro e w' ⟨rfl, rfl⟩
  go_wp2_with fail
  refine (to_feet A n c F hn _ HA.out).mono ?_
  rintro e w1 ⟨g1, rfl, hg1, hl1, b1, hc1⟩
  have HI1 := Lib.hid (HA.out.of_copy hl1 hc1)
  have HB1 := Lib.hid b1
  clear hc1 b1 hg1 hl1
  go_wp2_with fail
  refine (CS.out _ _ _ HI1.out).mono ?_
  rintro e w2 ⟨A2, cap2, rfl, HO2, b2⟩
  have HN2 := Lib.hid HO2.out.nums
  have HB2 := Lib.hid (below_then HB1.out b2)
  clear b2 HO2
  go_wp2_with fail
  refine (to_feet2 A n c F hn _ ((HA.out.below HB2.out (Nat.le_refl _)).more HB2.out.size)).mono ?_
  rintro e w3 ⟨g3, rfl, hg3, hl3, b3, hc3, arr3, hk3, hs3⟩
  have HI3 := Lib.hid (HA.out.of_copy hl3 hc3)
  have HK3 := Lib.hid hk3
  have HB3 := Lib.hid (below_then HB2.out b3)
  have HN3 := Lib.hid (HN2.out.below b3 (Nat.le_refl _))
  clear hc3 b3 hk3 HN2
  go_wp2_with fail
  refine (CI.out _ _ _ HI3.out).mono ?_
  rintro e w4 ⟨A4, cap4, rfl, HO4, b4⟩
  have HB4 := Lib.hid (below_then HB3.out b4)
  have HI4 := Lib.hid ((HI3.out.below b4 (Nat.le_refl _)).more b4.size)
  have HK4 := Lib.hid (blk_keep b4 HK3.out)
  have HN4 := Lib.hid ((HN3.out.below b4 (by omega)))
  have hl4 : g3 < w3.heap.size := hl3
  clear b4
  go_wp2_with fail
  refine (eq_ints A4 A2 m cap4 cap2 d hm _ HO4.out.nums (HN4.out.more (by have := lt_of_heap HK4.out; omega))).mono ?_
  rintro e w5 ⟨rfl, b5⟩
  have HB5 := Lib.hid (below_then HB4.out b5)
  have HI5 := Lib.hid ((HI4.out.below b5 (Nat.le_refl _)).more b5.size)
  have HK5 := Lib.hid (blk_keep b5 HK4.out)
  have HO5 := Lib.hid (HO4.out.below b5)
  have HN5 := Lib.hid (HN4.out.below b5 (by have := lt_of_heap HK4.out; omega))
  clear b5 HI4 HK4 HO4 HN4
  go_wp2_with fail
  refine (to_feet A n c F hn _ ((HA.out.below HB5.out (Nat.le_refl _)).more HB5.out.size)).mono ?_
  rintro e w6 ⟨g6, rfl, hg6, hl6, b6, hc6⟩
  have HI6 := Lib.hid (HA.out.of_copy hl6 hc6)
  have HB6 := Lib.hid (below_then HB5.out b6)
  have HI7 := Lib.hid ((HI5.out.below b6 (Nat.le_refl _)).more b6.size)
  have HK6 := Lib.hid (blk_keep b6 HK5.out)
  have HO6 := Lib.hid (HO5.out.below b6)
  have HN6 := Lib.hid (HN5.out.below b6 (by have := lt_of_heap HK5.out; omega))
  clear hc6 b6 hg6 hl6 HI5 HK5 HO5 HN5
  go_wp2_with fail
  refine (eq_feet _ _ n n n F hn _ HI7.out HI6.out).mono ?_
  rintro e w7 ⟨rfl, b7⟩
  have HB7 := Lib.hid (below_then HB6.out b7)
  have HK7 := Lib.hid (blk_keep b7 HK6.out)
  have HO7 := Lib.hid (HO6.out.below b7)
  have HN7 := Lib.hid (HN6.out.below b7 (by have := lt_of_heap HK6.out; omega))
  clear b7 HI7 HI6 HK6 HO6 HN6
  go_wp2_with fail
  refine (mark_feet g3 n n _ arr3 hn hs3 _ HK7.out).mono ?_
  rintro e w8 ⟨rfl, t8⟩
  have HB8 := Lib.hid (HB7.out.trans (t8.below (by have := HB2.out.size; omega) HB7.out.size))
  have HO8 := Lib.hid (t8.own HO7.out hl3)
  have HN8 := Lib.hid (t8.nums HN7.out hg3)
  have hs8 := t8.size
  have hg8 := lt_of_heap HK7.out
  clear t8 HO7 HN7
  go_wp2_with fail
  refine (eq_ints A4 A2 m cap4 cap2 d hm _ HO8.out.nums (HN8.out.more (by omega))).mono ?_
  rintro e w9 ⟨rfl, b9⟩
  have HB9 := Lib.hid (below_then HB8.out b9)
  have HO9 := Lib.hid (HO8.out.below b9)
  have HN9 := Lib.hid (HN8.out.below b9 (by omega))
  have hs9 := b9.size
  clear b9 HO8 HN8
  go_wp2_with fail
  refine (MK.out A4 cap4 _ _ HO9.out).mono ?_
  rintro e w10 ⟨rfl, hm10, b10⟩
  have HB10 := Lib.hid (HB9.out.trans (b10.mono (by have := HB3.out.size; omega)))
  have HO10 := Lib.hid hm10
  have HN10 := Lib.hid (HN9.out.below b10 (by omega))
  have hs10 := b10.size
  clear b10 hm10 HN9 HO9
  go_wp2_with fail
  refine (HE.out A4 cap4 _ _ HO10.out.nums).mono ?_
  rintro e wq ⟨rfl, rfl⟩
  go_wp2_with fail
  refine (to_feet A n c F hn _ ((HA.out.below HB10.out (Nat.le_refl _)).more HB10.out.size)).mono ?_
  rintro e w11 ⟨g11, rfl, hg11, hl11, b11, hc11⟩
  have HI11 := Lib.hid (HA.out.of_copy hl11 hc11)
  have HB11 := Lib.hid (below_then HB10.out b11)
  have HO11 := Lib.hid (HO10.out.below b11)
  have HN11 := Lib.hid (HN10.out.below b11 (by omega))
  have hs11 := b11.size
  clear hc11 b11 hg11 hl11 HO10 HN10
  go_wp2_with fail
  refine (CI.out _ _ _ HI11.out).mono ?_
  rintro e w12 ⟨A12, cap12, rfl, HO12, b12⟩
  have HB12 := Lib.hid (below_then HB11.out b12)
  have HM12 := Lib.hid (HO11.out.below b12)
  have HN12 := Lib.hid (HN11.out.below b12 (by omega))
  have hs12 := b12.size
  clear b12 HO11 HN11
  go_wp2_with fail
  refine (eq_ints A12 A2 m cap12 cap2 d hm _ HO12.out.nums (HN12.out.more (by omega))).mono ?_
  rintro e w13 ⟨rfl, b13⟩
  have HB13 := Lib.hid (below_then HB12.out b13)
  have HM13 := Lib.hid (HM12.out.below b13)
  clear b13 HM12 HN12
  go_wp2_with fail
  refine (HE.out A4 cap4 _ _ HM13.out.nums).mono ?_
  rintro e wq ⟨rfl, rfl⟩
  go_wp2_with fail
  go_ret
  exact ⟨rfl, HB13.out⟩

theorem code_zero {n : Nat} {F : Nat → Nat → Int} {most : Int} (h : (codeOf n F most != 0) = false) : Okay n F ∧ 0 < n ∧ codeOf n F most = 0 := by
  have h0 : codeOf n F most = 0 := by simpa using h
  refine ⟨?_, ?_, h0⟩
  · by_cases ho : Okay n F
    · exact ho
    · unfold codeOf at h0
      rw [if_pos (by simpa using ho)] at h0
      cases h0
  · by_cases hn : n = 0
    · unfold codeOf at h0
      by_cases ho : Okay n F
      · rw [if_neg (by simpa using ho)] at h0
        by_cases hm : 0 ≤ most ∧ most ≤ 5000
        · rw [if_neg (by simpa using hm), if_pos hn] at h0
          cases h0
        · rw [if_pos hm] at h0
          cases h0
      · rw [if_pos (by simpa using ho)] at h0
        cases h0
    · omega

/-- The law. -/
theorem law (A : Option Addr) (n c : Nat) (F : Nat → Nat → Int) (most : Int) (w : World) (hA : Ints w w.heap.size 4 A n F) (_ : (Lit.int .i64 most).wf = true) : Calls Try.prog 4 #[.slice A n c, .int .i64 most] w fun e w' => e = .returned (.bool true) ∧ Below w.heap.size w w' := by
  by_cases hbig : 1048576 < n
  · have hm := hA.1
    clear hA
    go_enter Try.func4, Try.ntmps4
    go_wp2_with fail
    refine (sz_big A n c hbig hm _).mono ?_
    rintro e w' ⟨rfl, rfl⟩
    go_wp2_with fail
    go_ret
    exact ⟨rfl, Below.refl _ _⟩
  have hn : n ≤ 1048576 := by omega
  cases hc : (codeOf n F most != 0)
  · obtain ⟨ho, h0, hz⟩ := code_zero hc
    exact core A n c F most hn _ (Nat.le_trans (fl_le _ _) hn) _ 0 w hA (Lib.hid fun A c w h => spec_far_yes A n c F most hn hz h0 ho w h) (Lib.hid fun A c w h => impl_far_yes A n c F most hn hz h0 ho w h)
  · exact core A n c F most hn 0 (by omega) (fun _ => 0) (codeOf n F most) w hA (Lib.hid fun A c w h => spec_far_no A n c F most hn hc w h) (Lib.hid fun A c w h => impl_far_no A n c F most hn hc w h)
end Go.Proofs.Ytoincfhhafpekaa.Fy
