/- The walk of the law of ValidWidths. -/
import Derived.Test.YtcmjbpjeiaifoabWdLib
namespace Go.Proofs.Ytcmjbpjeiaifoab.Vw
open Go.RowKit Ba Wd

/-- The law: both say the same of all widths. -/
theorem law (f h s c : Int) (w : World) (_ : (Lit.int .i64 f).wf = true) (_ : (Lit.int .i64 h).wf = true) (_ : (Lit.int .i64 s).wf = true) (_ : (Lit.int .i64 c).wf = true) : Calls Try.prog 9 #[.agg #[.int .i64 f, .int .i64 h, .int .i64 s, .int .i64 c]] w fun e w' => e = .returned (.bool true) ∧ Below w.heap.size w w' := by
  go_enter Try.func9, Try.ntmps9
  go_wp2_with fail
  refine (to_any _ _ _ _ _).mono ?_
  rintro e w1 ⟨rfl, b1⟩
  go_wp2_with fail
  refine (spec_ok _ _ _ _ _).mono ?_
  rintro e w2 ⟨rfl, b2⟩
  have b12 := below_then b1 b2
  obtain ⟨x0, x1, x2, x3⟩ := box4 b12
  have hb := below_then (below_box _ _) b12
  clear b1 b2 b12
  go_wp2_with fail
  refine (to_any _ _ _ _ _).mono ?_
  rintro e w3 ⟨rfl, b3⟩
  have hb3 := below_then hb b3
  go_wp2_with fail
  refine (impl_ok _ _ _ _ _).mono ?_
  rintro e w4 ⟨rfl, b4⟩
  have hb4 := below_then hb3 b4
  clear x0 x1 x2 x3 hb b3 hb3 b4
  generalize wdB f h s c = r
  cases r
  all_goals
    go_wp2_with fail
    go_ret
    exact ⟨rfl, hb4⟩
end Go.Proofs.Ytcmjbpjeiaifoab.Vw
