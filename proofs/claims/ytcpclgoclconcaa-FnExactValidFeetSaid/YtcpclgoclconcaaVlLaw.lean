/- The walk of the law of ValidFeet. -/
import Derived.Test.YtcpclgoclconcaaFsLib
namespace Go.Proofs.Ytcpclgoclconcaa.Vl
open Go.RowKit Ft Fs

theorem spec_valid (A : Option Addr) (n c : Nat) (F : Nat → Nat → Int) (hn : n ≤ 1048576) (w : World) (hA : Ints w w.heap.size 4 A n F) : Calls Try.prog 33 #[.slice A n c] w (Tells (Okay n F) w) := by
  have HC := Lib.hid (fun w hA => spec_ok A n c F hn w hA)
  by_cases ho : Okay n F
  · have HO := Lib.hid ho
    clear ho
    go_enter Try.func33, Try.ntmps33
    go_wp2_with fail
    refine (HC.out _ hA).mono ?_
    intro e w1 t
    obtain ⟨rfl, b1⟩ := tells_true HO.out t
    go_wp2_with fail
    go_ret
    exact tells_yes HO.out b1
  · have HO := Lib.hid ho
    clear ho
    go_enter Try.func33, Try.ntmps33
    go_wp2_with fail
    refine (HC.out _ hA).mono ?_
    intro e w1 t
    obtain ⟨rfl, b1⟩ := tells_false HO.out t
    go_wp2_with fail
    go_ret
    exact tells_no HO.out b1

theorem law (A : Option Addr) (n c : Nat) (F : Nat → Nat → Int) (w : World) (hA : Ints w w.heap.size 4 A n F) : Calls Try.prog 8 #[.slice A n c] w fun e w' => e = .returned (.bool true) ∧ Below w.heap.size w w' := by
  by_cases hbig : 1048576 < n
  · have hm := hA.1
    clear hA
    go_enter Try.func8, Try.ntmps8
    go_wp2_with fail
    refine (sz_big A n c hbig hm _).mono ?_
    rintro e w' ⟨rfl, rfl⟩
    go_wp2_with fail
    go_ret
    exact ⟨rfl, Below.refl _ _⟩
  have hn : n ≤ 1048576 := by omega
  clear hbig
  obtain ⟨r, hr⟩ : ∃ r : Bool, r = true ↔ Okay n F := by
    by_cases ho : Okay n F
    · exact ⟨true, by simp [ho]⟩
    · exact ⟨false, by simp [ho]⟩
  have HR := Lib.hid hr
  have HA := Lib.hid hA
  clear hr hA
  go_enter Try.func8, Try.ntmps8
  go_wp2_with fail
  refine (sz_small A n c hn _).mono ?_
  rintro e w' ⟨rfl, rfl⟩
  go_wp2_with fail
  refine (to_feet A n c F hn _ HA.out).mono ?_
  rintro e w1 ⟨g1, rfl, hg1, hl1, b1, hc1⟩
  have HI1 := Lib.hid (HA.out.of_copy hl1 hc1)
  have HB1 := Lib.hid b1
  clear hc1 b1 hg1 hl1
  go_wp2_with fail
  refine (spec_valid _ n n F hn _ HI1.out).mono ?_
  rintro e w2 ⟨r2, rfl, hr2, b2⟩
  obtain rfl : r2 = r := by rw [Bool.eq_iff_iff, hr2, HR.out]
  have HB2 := Lib.hid (below_then HB1.out b2)
  clear hr2 b2
  go_wp2_with fail
  refine (to_feet A n c F hn _ ((HA.out.below HB2.out (Nat.le_refl _)).more HB2.out.size)).mono ?_
  rintro e w3 ⟨g3, rfl, hg3, hl3, b3, hc3⟩
  have HI3 := Lib.hid (HA.out.of_copy hl3 hc3)
  have HB3 := Lib.hid (below_then HB2.out b3)
  clear hc3 b3 hg3 hl3
  go_wp2_with fail
  refine (impl_ok _ n n F hn _ HI3.out).mono ?_
  rintro e w4 ⟨r4, rfl, hr4, b4⟩
  obtain rfl : r4 = r2 := by rw [Bool.eq_iff_iff, hr4, HR.out]
  have HB4 := Lib.hid (below_then HB3.out b4)
  have HI4 := Lib.hid ((HI3.out.below b4 (Nat.le_refl _)).more b4.size)
  clear hr4 b4
  cases r4
  all_goals
    go_wp2_with fail
    refine (to_feet A n c F hn _ ((HA.out.below HB4.out (Nat.le_refl _)).more HB4.out.size)).mono ?_
    rintro e w5 ⟨g5, rfl, hg5, hl5, b5, hc5⟩
    have HI5 := Lib.hid (HA.out.of_copy hl5 hc5)
    have HB5 := Lib.hid (below_then HB4.out b5)
    have HI6 := Lib.hid ((HI4.out.below b5 (Nat.le_refl _)).more b5.size)
    clear hc5 b5 hg5 hl5
    go_wp2_with fail
    refine (eq_feet _ _ n n n F hn _ HI6.out HI5.out).mono ?_
    rintro e w6 ⟨rfl, b6⟩
    have HB6 := Lib.hid (below_then HB5.out b6)
    clear b6
    go_wp2_with fail
    go_ret
    exact ⟨rfl, HB6.out⟩
end Go.Proofs.Ytcpclgoclconcaa.Vl
