/- The walk of the law of LastNamed. -/
import Derived.Test.YtoincfhhafpekaaLmLib
namespace Go.Proofs.Ytoincfhhafpekaa.Lm
open Go.RowKit Ft Ge La Ll Lv Pl

theorem law (A : Option Addr) (n c : Nat) (N : Nat → ByteArray) (F : Nat → Nat → Int) (s : ByteArray) (w : World) (hA : Lasts w w.heap.size A n N F) (hs : s.size ≤ maxLen) :
    Calls Try.prog 12 #[.slice A n c, .string s] w fun e w' => e = .returned (.bool true) ∧ Below w.heap.size w w' := by
  have hs' := hs
  unfold maxLen at hs'
  by_cases hbig : 1048576 < s.size
  · clear hA hs
    go_enter Try.func12, Try.ntmps12
    go_wp2_with fail
    go_ret
    exact ⟨rfl, Below.refl _ _⟩
  have hsn : s.size ≤ 1048576 := by omega
  have HA := Lib.hid hA
  have CZ := Lib.hid (sz_lasts A n c N F 1048576 (by omega) (by omega) w hA)
  have CS := Lib.hid (fun A n c hn w h => spec_named A n c N F s hs hn w h)
  have CI := Lib.hid (fun A n c hn w h => impl_named A n c N F s hs hn w h)
  have CT := Lib.hid (fun hn w h => to_lasts A n c N F hn w h)
  have CE := Lib.hid (fun A1 A2 c1 c2 hn w h1 h2 => eq_lasts A1 A2 n c1 c2 N F hn w h1 h2)
  clear hA hbig hs hs'
  go_enter Try.func12, Try.ntmps12
  go_wp2_with fail
  refine CZ.out.mono ?_
  rintro e w1 ⟨r, rfl, hr0, hr1, hr2, b1⟩
  have HB1 := Lib.hid b1
  clear b1 CZ
  by_cases hr : r < 0
  · go_wp2_with fail
    go_ret
    exact ⟨rfl, HB1.out⟩
  have hn := hr2 (by omega)
  clear hr2
  go_wp2_with fail
  refine (CT.out hn _ ((HA.out.below HB1.out (Nat.le_refl _)).more HB1.out.size)).mono ?_
  rintro e w2 ⟨g2, arr2, rfl, _, b2, k2, a2⟩
  have HB2 := Lib.hid (below_then HB1.out b2)
  have HI2 := Lib.hid (lasts_of_copy HA.out k2.out a2.out)
  clear b2
  go_wp2_with fail
  refine (CS.out _ _ _ hn _ HI2.out).mono ?_
  rintro e w3 ⟨rfl, b3⟩
  have HB3 := Lib.hid (below_then HB2.out b3)
  clear b3
  go_wp2_with fail
  refine (CT.out hn _ ((HA.out.below HB3.out (Nat.le_refl _)).more HB3.out.size)).mono ?_
  rintro e w4 ⟨g4, arr4, rfl, _, b4, k4, a4⟩
  have HB4 := Lib.hid (below_then HB3.out b4)
  have HI4 := Lib.hid (lasts_of_copy HA.out k4.out a4.out)
  clear b4
  go_wp2_with fail
  refine (CI.out _ _ _ hn _ HI4.out).mono ?_
  rintro e w5 ⟨rfl, b5⟩
  have HB5 := Lib.hid (below_then HB4.out b5)
  have HI5 := Lib.hid ((HI4.out.below b5 (Nat.le_refl _)).more b5.size)
  clear b5
  generalize lv n N F s = v
  generalize lc n N F s = cd
  have n0 : (v != v) = false := by simp
  have n1 : (cd != cd) = false := by simp
  go_wp2_with fail
  refine (CT.out hn _ ((HA.out.below HB5.out (Nat.le_refl _)).more HB5.out.size)).mono ?_
  rintro e w6 ⟨g6, arr6, rfl, _, b6, k6, a6⟩
  have HB6 := Lib.hid (below_then HB5.out b6)
  have HI6 := Lib.hid (lasts_of_copy HA.out k6.out a6.out)
  have HI7 := Lib.hid ((HI5.out.below b6 (Nat.le_refl _)).more b6.size)
  clear b6
  go_wp2_with fail
  refine (CE.out _ _ _ _ hn _ HI7.out HI6.out).mono ?_
  rintro e w7 ⟨rfl, b7⟩
  have HB7 := Lib.hid (below_then HB6.out b7)
  clear b7
  go_wp2_with fail
  go_ret
  exact ⟨rfl, HB7.out⟩
end Go.Proofs.Ytoincfhhafpekaa.Lm
