/- ReadLast: the walk of the law. -/
import Derived.Test.YtggbdpamjjgakabDoorRxLib
namespace Go.Proofs.YtggbdpamjjgakabDoor.Rl2
open Go.RowKit Go.Lib Ba St Rn Rs Ri Rf Rg Rj Rl La Rx
set_option linter.unusedVariables false

theorem law (s : ByteArray) (w : World) (hV : Vars w) (hM : MaxAt w) (hs : s.size ≤ maxLen) : Calls Tryd.prog 7 #[.string s] w fun e w' => e = .returned (.bool true) ∧ Below w.heap.size w w' := by
  have hs' := hs
  unfold maxLen at hs'
  by_cases hbig : 1048576 < s.size
  · clear hs hV hM
    go_enter Tryd.func7, Tryd.ntmps7
    go_wp2_with fail
    go_ret
    exact ⟨rfl, Below.refl _ _⟩
  have hz : s.size ≤ 1048576 := by omega
  have S := Lib.hid fun w => (Classical.byCases (spec_yes s hz · w) (spec_no s hz · w) : Calls Tryd.prog 25 #[.string s] w (ResAt (rlB s.data.toList) (rlS s.data.toList) (rlF s.data.toList) w))
  have I := Lib.hid fun w hV hM => impl_read s hz w hV hM
  have VV := Lib.hid hV
  have MM := Lib.hid hM
  unfold ResAt at S I
  generalize rlB s.data.toList = b at S I
  generalize rlS s.data.toList = t at S I
  generalize rlF s.data.toList = f at S I
  have EQ := Lib.hid fun w => eq_last_same t f w
  have n0 : (b != b) = false := by simp
  clear hV hM hs hbig
  go_enter Tryd.func7, Tryd.ntmps7
  go_wp2_with fail
  refine (S.out _).mono ?_
  rintro e w1 ⟨rfl, b1⟩
  have B1 := Lib.hid b1
  clear b1
  go_wp2_with fail
  have bb := below_box w1 (laC t f 41)
  have B2 := Lib.hid (below_then B1.out bb)
  have K2 := Lib.hid (heap_alloc_new w1 (laC t f 41))
  generalize w1.alloc (laC t f 41) = w2 at B2 K2 ⊢
  generalize w1.heap.size = g2 at K2 ⊢
  clear bb B1
  refine (I.out _ (VV.out.below B2.out) (MM.out.below B2.out)).mono ?_
  rintro e w3 ⟨rfl, b3⟩
  have B3 := Lib.hid (below_then B2.out b3)
  have K3 := Lib.hid (Ba.blk_keep b3 K2.out)
  clear b3 B2 K2
  obtain ⟨x0, x1, x2, x3, x4, x5⟩ := Ge.blk6 K3.out
  have hz := Ba.lt_of_heap K3.out
  have B4 := Lib.hid (below_then B3.out (below_box w3 (laC t f 41)))
  go_wp2_with fail
  refine (EQ.out _).mono ?_
  rintro e w5 ⟨rfl, b5⟩
  have B5 := Lib.hid (below_then B4.out b5)
  clear b5
  go_wp2_with fail
  go_ret
  exact ⟨rfl, B5.out⟩
end Go.Proofs.YtggbdpamjjgakabDoor.Rl2
