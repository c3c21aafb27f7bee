/- The walk of the law of ValidGrade. -/
import Derived.Test.YtaoknbhpjnileaaGaLib
import Derived.Test.YtaoknbhpjnileaaAgLib
namespace Go.Proofs.Ytaoknbhpjnileaa.Gv
open Go.RowKit Ft Ge Qb La Ga

/-- Five numbers, by place. -/
def of5 (a b c d e : Int) (k : Nat) : Int := match k with | 0 => a | 1 => b | 2 => c | 3 => d | _ => e
theorem spec_vg (g : Nat → Int) (w : World) : Calls Try.prog 44 #[fvV g] w fun e w' => e = .returned (.bool (grB g)) ∧ Below w.heap.size w w' := by
  have C := Lib.hid (fun w => ok_any g w)
  generalize grB g = r at C ⊢
  unfold fvV at C ⊢
  generalize g 0 = g0, g 1 = g1, g 2 = g2, g 3 = g3, g 4 = g4 at C ⊢
  go_enter Try.func44, Try.ntmps44
  go_wp2_with fail
  refine (C.out _).mono ?_
  rintro e w1 ⟨rfl, b1⟩
  have HB1 := Lib.hid (below_then (below_box w (.cells #[.int .i64 g0, .int .i64 g1, .int .i64 g2, .int .i64 g3, .int .i64 g4] 61)) b1)
  clear b1
  go_wp2_with fail
  go_ret
  exact ⟨rfl, HB1.out⟩
theorem core (g : Nat → Int) (w : World) : Calls Try.prog 12 #[fvV g] w fun e w' => e = .returned (.bool true) ∧ Below w.heap.size w w' := by
  have CT := Lib.hid (fun w => to_grade g w)
  have CS := Lib.hid (fun w => spec_vg g w)
  have CI := Lib.hid (fun w => valid_gr g w)
  have K := Lib.hid (heap_alloc_new w (fvC g 59))
  have HB := Lib.hid (below_box w (fvC g 59))
  generalize grB g = r at CS CI
  unfold fvV at CT CS CI ⊢
  unfold fvC at K HB
  generalize g 0 = g0, g 1 = g1, g 2 = g2, g 3 = g3, g 4 = g4 at *
  go_enter Try.func12, Try.ntmps12
  obtain ⟨x0, x1, x2, x3, x4⟩ := blk5 K.out
  go_wp2_with fail
  refine (CT.out _).mono ?_
  rintro e w1 ⟨rfl, b1⟩
  have B1 := Lib.hid (below_then HB.out b1)
  have K1 := Lib.hid (blk_keep b1 K.out)
  clear b1 x0 x1 x2 x3 x4
  go_wp2_with fail
  refine (CS.out _).mono ?_
  rintro e w2 ⟨rfl, b2⟩
  have B2 := Lib.hid (below_then B1.out b2)
  have K2 := Lib.hid (blk_keep b2 K1.out)
  clear b2
  obtain ⟨x0, x1, x2, x3, x4⟩ := blk5 K2.out
  go_wp2_with fail
  refine (CT.out _).mono ?_
  rintro e w3 ⟨rfl, b3⟩
  have B3 := Lib.hid (below_then B2.out b3)
  clear b3 x0 x1 x2 x3 x4
  go_wp2_with fail
  refine (CI.out _).mono ?_
  rintro e w4 ⟨rfl, b4⟩
  have B4 := Lib.hid (below_then B3.out b4)
  clear b4
  cases r
  all_goals
    go_wp2_with fail
    go_ret
    exact ⟨rfl, B4.out⟩
theorem law (a b c d e : Int) (w : World) (_ : (Lit.int .i64 a).wf = true) (_ : (Lit.int .i64 b).wf = true) (_ : (Lit.int .i64 c).wf = true) (_ : (Lit.int .i64 d).wf = true) (_ : (Lit.int .i64 e).wf = true) :
    Calls Try.prog 12 #[.agg #[.int .i64 a, .int .i64 b, .int .i64 c, .int .i64 d, .int .i64 e]] w fun e w' => e = .returned (.bool true) ∧ Below w.heap.size w w' := core (of5 a b c d e) w
end Go.Proofs.Ytaoknbhpjnileaa.Gv
