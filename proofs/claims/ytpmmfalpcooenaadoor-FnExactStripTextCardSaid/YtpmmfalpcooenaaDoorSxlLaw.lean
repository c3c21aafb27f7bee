/- The walk of the law of StripText. -/
import Derived.Test.YtpmmfalpcooenaaDoorSxLib
namespace Go.Proofs.YtpmmfalpcooenaaDoor.Sxl
open Go.RowKit Ft Is Ge Qb Sx
set_option linter.unusedVariables false
set_option maxHeartbeats 1000000 in
theorem law (a b c d : Int) (w : World) (hV : VT w) (_ : (Lit.int .i64 a).wf = true) (_ : (Lit.int .i64 b).wf = true) (_ : (Lit.int .i64 c).wf = true) (_ : (Lit.int .i64 d).wf = true) :
    Calls Tryd.prog 12 #[.agg #[.int .i64 a, .int .i64 b, .int .i64 c, .int .i64 d]] w fun e w' => e = .returned (.bool true) ∧ Below w.heap.size w w' := by
  have CT := Lib.hid (fun w => Str.to_one a b c d w)
  have CS := Lib.hid (fun w => spec_text a b c d w)
  have CI := Lib.hid (fun w h => impl_text a b c d w h)
  have HV := Lib.hid hV
  have K := Lib.hid (heap_alloc_new w (Str.reC a b c d 52))
  have HB := Lib.hid (below_box w (Str.reC a b c d 52))
  clear hV
  generalize sxT a b c d = r at CS CI
  unfold Str.reV at CT CS CI
  unfold Str.reC at K HB
  go_enter Tryd.func12, Tryd.ntmps12
  have x0 : (w.alloc (.cells #[.int .i64 a, .int .i64 b, .int .i64 c, .int .i64 d] 52)).cell? ⟨w.heap.size, 0, none⟩ = some (.int .i64 a) := cell_of_row _ _ _ _ _ _ K.out
  have x1 : (w.alloc (.cells #[.int .i64 a, .int .i64 b, .int .i64 c, .int .i64 d] 52)).cell? ⟨w.heap.size, 1, none⟩ = some (.int .i64 b) := cell_of_row _ _ _ _ _ _ K.out
  have x2 : (w.alloc (.cells #[.int .i64 a, .int .i64 b, .int .i64 c, .int .i64 d] 52)).cell? ⟨w.heap.size, 2, none⟩ = some (.int .i64 c) := cell_of_row _ _ _ _ _ _ K.out
  have x3 : (w.alloc (.cells #[.int .i64 a, .int .i64 b, .int .i64 c, .int .i64 d] 52)).cell? ⟨w.heap.size, 3, none⟩ = some (.int .i64 d) := cell_of_row _ _ _ _ _ _ K.out
  go_wp2_with fail
  refine (CT.out _).mono ?_
  rintro e w1 ⟨rfl, b1⟩
  have B1 := Lib.hid (below_then HB.out b1)
  have K1 := Lib.hid (blk_keep b1 K.out)
  clear b1 x0 x1 x2 x3 K HB
  go_wp2_with fail
  refine (CS.out _).mono ?_
  rintro e w2 ⟨rfl, b2⟩
  have B2 := Lib.hid (below_then B1.out b2)
  have K2 := Lib.hid (blk_keep b2 K1.out)
  clear b2
  obtain ⟨x0, x1, x2, x3⟩ : w2.cell? ⟨w.heap.size, 0, none⟩ = some (.int .i64 a) ∧ w2.cell? ⟨w.heap.size, 1, none⟩ = some (.int .i64 b) ∧ w2.cell? ⟨w.heap.size, 2, none⟩ = some (.int .i64 c) ∧ w2.cell? ⟨w.heap.size, 3, none⟩ = some (.int .i64 d) := ⟨cell_of_row _ _ _ _ _ _ K2.out, cell_of_row _ _ _ _ _ _ K2.out, cell_of_row _ _ _ _ _ _ K2.out, cell_of_row _ _ _ _ _ _ K2.out⟩
  go_wp2_with fail
  refine (CT.out _).mono ?_
  rintro e w3 ⟨rfl, b3⟩
  have B3 := Lib.hid (below_then B2.out b3)
  clear b3 x0 x1 x2 x3
  go_wp2_with fail
  refine (CI.out _ (HV.out.below B3.out)).mono ?_
  rintro e w4 ⟨rfl, b4⟩
  have B4 := Lib.hid (below_then B3.out b4)
  clear b4
  go_wp2_with fail
  go_ret
  exact ⟨rfl, B4.out⟩
end Go.Proofs.YtpmmfalpcooenaaDoor.Sxl
