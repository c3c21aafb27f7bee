/- SplitWords: the walk of the law. -/
import Derived.Test.YtcmjbpjeiaifoaaWwLib
namespace Go.Proofs.Ytcmjbpjeiaifoaa.Wx
open Go.RowKit Ba St Ws Wu Ts Ww
set_option linter.unusedVariables false

set_option maxRecDepth 100000 in
set_option maxHeartbeats 2000000 in
theorem law (s : ByteArray) (w : World) (hs : s.size ≤ maxLen) : Calls Try.prog 8 #[.string s] w fun e w' => e = .returned (.bool true) ∧ Below w.heap.size w w' := by
  have hs' := hs
  unfold maxLen at hs'
  by_cases hbig : 1048576 < s.size
  · clear hs
    go_enter Try.func8, Try.ntmps8
    go_wp2_with fail
    go_ret
    exact ⟨rfl, Below.refl _ _⟩
  have S := Lib.hid fun w => spec_list s (by omega) w
  have I := Lib.hid fun w => impl_list s (by omega) w
  have hl : (wrd s.data.toList).length ≤ 1048577 := by
    have := wrd_len s.data.toList
    simp at this
    omega
  unfold ListT at S I
  generalize (wrd s.data.toList).length = n at S I hl
  generalize tx (wrd s.data.toList) = f at S I
  have E := Lib.hid fun A1 A2 c1 c2 w h1 h2 => eq_texts A1 A2 n c1 c2 f hl w h1 h2
  have M := Lib.hid fun A c B w hB h => mark_texts A n c 1 f hl (by omega) (by omega) B w hB h
  have H := Lib.hid fun A c w h => held_texts A n c 1 hl (by omega) (by omega) w h
  clear hs
  go_enter Try.func8, Try.ntmps8
  go_wp2_with fail
  refine (S.out _).mono ?_
  rintro e w1 ⟨A0, c0, rfl, HO0, HB1⟩
  have T0 := Lib.hid HO0.out.texts
  clear HO0
  go_wp2_with fail
  refine (I.out _).mono ?_
  rintro e w2 ⟨A1, c1, rfl, HO1, HB2⟩
  have HBB2 := Lib.hid (below_then HB1.out HB2.out)
  have T0' := Lib.hid (T0.out.below HB2.out (Nat.le_refl _))
  have hz2 := HB2.out.size
  go_wp2_with fail
  refine (E.out A1 A0 c1 c0 _ HO1.out.texts (T0'.out.more hz2)).mono ?_
  rintro e w3 ⟨rfl, b3⟩
  have HB3 := Lib.hid (below_then HB2.out b3)
  have HO3 := Lib.hid (HO1.out.below b3)
  clear b3 HO1
  go_wp2_with fail
  refine (M.out A1 c1 w1.heap.size _ HB3.out.size HO3.out).mono ?_
  rintro e w4 ⟨rfl, ho4, b4⟩
  have HO4 := Lib.hid ho4
  have HB4 := Lib.hid (HB3.out.trans b4)
  clear ho4 b4 HO3
  go_wp2_with fail
  refine (H.out A1 c1 _ HO4.out.texts).mono ?_
  rintro e w5 ⟨rfl, b5⟩
  have HB5 := Lib.hid (below_then HB4.out b5)
  have HO5 := Lib.hid (HO4.out.below b5)
  clear b5 HO4
  go_wp2_with fail
  refine (I.out _).mono ?_
  rintro e w6 ⟨A2, c2, rfl, HO2, HB6⟩
  have HBB6 := Lib.hid (below_then HB5.out HB6.out)
  have HO6 := Lib.hid (HO5.out.below HB6.out)
  have T6 := Lib.hid (T0.out.below HBB6.out (Nat.le_refl _))
  have hz6 := HBB6.out.size
  go_wp2_with fail
  refine (E.out A2 A0 c2 c0 _ HO2.out.texts (T6.out.more hz6)).mono ?_
  rintro e w7 ⟨rfl, b7⟩
  have HB7 := Lib.hid (below_then HBB6.out b7)
  have HO7 := Lib.hid (HO6.out.below b7)
  clear b7 HO6
  go_wp2_with fail
  refine (H.out A1 c1 _ HO7.out.texts).mono ?_
  rintro e w8 ⟨rfl, b8⟩
  have HB8 := Lib.hid (below_then HB1.out (below_then HB7.out b8))
  clear b8
  go_wp2_with fail
  go_ret
  exact ⟨rfl, HB8.out⟩
end Go.Proofs.Ytcmjbpjeiaifoaa.Wx
