/- The walk of the law of SameLasts. -/
import Derived.Test.YtoincfhhafpekaaSmLib
namespace Go.Proofs.Ytoincfhhafpekaa.Sl
open Go.RowKit Ft Ge La Ll Sm

set_option maxHeartbeats 1000000 in
theorem law (A : Option Addr) (n c : Nat) (N : Nat → ByteArray) (F : Nat → Nat → Int) (B : Option Addr) (m d : Nat) (M : Nat → ByteArray) (G : Nat → Nat → Int) (w : World) (hA : Lasts w w.heap.size A n N F) (hB : Lasts w w.heap.size B m M G) :
    Calls Try.prog 9 #[.slice A n c, .slice B m d] w fun e w' => e = .returned (.bool true) ∧ Below w.heap.size w w' := by
  have HA := Lib.hid hA
  have HB := Lib.hid hB
  have CZ := Lib.hid (fun l h0 h1 w h => sz_lasts A n c N F l h0 h1 w h)
  have CZ2 := Lib.hid (fun l h0 h1 w h => sz_lasts B m d M G l h0 h1 w h)
  have CS := Lib.hid (fun A B c d hn w h h' => (spec_same A B n m c d N M F G hn w h h').mono fun _ _ t => tells_tv t)
  have CI := Lib.hid (fun A B c d hn w h h' => (impl_same A B n m c d N M F G hn w h h').mono fun _ _ t => tells_tv t)
  have CT := Lib.hid (fun hn w h => to_lasts A n c N F hn w h)
  have CT2 := Lib.hid (fun hn w h => to_lasts B m d M G hn w h)
  have CE := Lib.hid (fun A1 A2 c1 c2 hn w h1 h2 => eq_lasts A1 A2 n c1 c2 N F hn w h1 h2)
  have CE2 := Lib.hid (fun A1 A2 c1 c2 hn w h1 h2 => eq_lasts A1 A2 m c1 c2 M G hn w h1 h2)
  clear hA hB
  generalize tv (SOk n m N M F G) = q at CS CI
  go_enter Try.func9, Try.ntmps9
  go_wp2_with fail
  refine (CZ.out _ (by omega) (by omega) _ HA.out).mono ?_
  rintro e w1 ⟨r, rfl, hr0, hr1, hr2, b1⟩
  have HB1 := Lib.hid b1
  clear b1 CZ
  by_cases hr : r < 0
  · go_wp2_with fail
    go_ret
    exact ⟨rfl, HB1.out⟩
  have hn := hr2 (by omega)
  clear hr2
  go_wp2_with fail
  refine (CZ2.out _ (by omega) (by omega) _ ((HB.out.below HB1.out (Nat.le_refl _)).more HB1.out.size)).mono ?_
  rintro e w2 ⟨r2, rfl, hs0, hs1, hs2, b2⟩
  have HB2 := Lib.hid (below_then HB1.out b2)
  clear b2 CZ2
  by_cases hr' : r2 < 0
  · go_wp2_with fail
    go_ret
    exact ⟨rfl, HB2.out⟩
  have hm := hs2 (by omega)
  clear hs2
  go_wp2_with fail
  refine (CT.out hn _ ((HA.out.below HB2.out (Nat.le_refl _)).more HB2.out.size)).mono ?_
  rintro e w3 ⟨g3, arr3, rfl, _, b3, k3, a3⟩
  have HB3 := Lib.hid (below_then HB2.out b3)
  have HI3 := Lib.hid (lasts_of_copy HA.out k3.out a3.out)
  clear b3
  go_wp2_with fail
  refine (CT2.out hm _ ((HB.out.below HB3.out (Nat.le_refl _)).more HB3.out.size)).mono ?_
  rintro e w4 ⟨g4, arr4, rfl, _, b4, k4, a4⟩
  have HB4 := Lib.hid (below_then HB3.out b4)
  have HI4 := Lib.hid (lasts_of_copy HB.out k4.out a4.out)
  have HJ4 := Lib.hid ((HI3.out.below b4 (Nat.le_refl _)).more b4.size)
  clear b4
  go_wp2_with fail
  refine (CS.out _ _ _ _ hn _ HJ4.out HI4.out).mono ?_
  rintro e w5 ⟨rfl, b5⟩
  have HB5 := Lib.hid (below_then HB4.out b5)
  clear b5
  go_wp2_with fail
  refine (CT.out hn _ ((HA.out.below HB5.out (Nat.le_refl _)).more HB5.out.size)).mono ?_
  rintro e w6 ⟨g6, arr6, rfl, _, b6, k6, a6⟩
  have HB6 := Lib.hid (below_then HB5.out b6)
  have HX6 := Lib.hid (lasts_of_copy HA.out k6.out a6.out)
  clear b6
  go_wp2_with fail
  refine (CT2.out hm _ ((HB.out.below HB6.out (Nat.le_refl _)).more HB6.out.size)).mono ?_
  rintro e w7 ⟨g7, arr7, rfl, _, b7, k7, a7⟩
  have HB7 := Lib.hid (below_then HB6.out b7)
  have HY7 := Lib.hid (lasts_of_copy HB.out k7.out a7.out)
  have HX7 := Lib.hid ((HX6.out.below b7 (Nat.le_refl _)).more b7.size)
  clear b7
  go_wp2_with fail
  refine (CI.out _ _ _ _ hn _ HX7.out HY7.out).mono ?_
  rintro e w8 ⟨rfl, b8⟩
  have HB8 := Lib.hid (below_then HB7.out b8)
  have HX8 := Lib.hid ((HX7.out.below b8 (Nat.le_refl _)).more b8.size)
  have HY8 := Lib.hid ((HY7.out.below b8 (Nat.le_refl _)).more b8.size)
  clear b8
  cases q
  all_goals
    go_wp2_with fail
    refine (CT.out hn _ ((HA.out.below HB8.out (Nat.le_refl _)).more HB8.out.size)).mono ?_
    rintro e w9 ⟨g9, arr9, rfl, _, b9, k9, a9⟩
    have HB9 := Lib.hid (below_then HB8.out b9)
    have HI9 := Lib.hid (lasts_of_copy HA.out k9.out a9.out)
    have HX9 := Lib.hid ((HX8.out.below b9 (Nat.le_refl _)).more b9.size)
    have HY9 := Lib.hid ((HY8.out.below b9 (Nat.le_refl _)).more b9.size)
    clear b9
    go_wp2_with fail
    refine (CE.out _ _ _ _ hn _ HX9.out HI9.out).mono ?_
    rintro e w10 ⟨rfl, b10⟩
    have HB10 := Lib.hid (below_then HB9.out b10)
    have HY10 := Lib.hid ((HY9.out.below b10 (Nat.le_refl _)).more b10.size)
    clear b10
    go_wp2_with fail
    refine (CT2.out hm _ ((HB.out.below HB10.out (Nat.le_refl _)).more HB10.out.size)).mono ?_
    rintro e w11 ⟨g11, arr11, rfl, _, b11, k11, a11⟩
    have HB11 := Lib.hid (below_then HB10.out b11)
    have HI11 := Lib.hid (lasts_of_copy HB.out k11.out a11.out)
    have HY11 := Lib.hid ((HY10.out.below b11 (Nat.le_refl _)).more b11.size)
    clear b11
    go_wp2_with fail
    refine (CE2.out _ _ _ _ hm _ HY11.out HI11.out).mono ?_
    rintro e w12 ⟨rfl, b12⟩
    have HB12 := Lib.hid (below_then HB11.out b12)
    clear b12
    go_wp2_with fail
    go_ret
    exact ⟨rfl, HB12.out⟩
end Go.Proofs.Ytoincfhhafpekaa.Sl
