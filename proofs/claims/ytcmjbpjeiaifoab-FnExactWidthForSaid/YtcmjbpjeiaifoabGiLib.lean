/- GirthOf and WidthFor: the girth of a width, and both functions' answers (spec and program). -/
import Derived.Test.YtcmjbpjeiaifoabWdLib
import Derived.Deep.QuietTactic
import Derived.BigQuiet
namespace Go.Proofs.Ytcmjbpjeiaifoab.Gi
open Go.RowKit Ba Nh Wd

theorem sgirth (f h s c half k : Int) (v : wdB f h s c = true) (hh : inB half 0 120 = true) (h0 : 0 ≤ k) (h1 : k ≤ 12) (w : World) :
    Calls Try.prog 53 #[.agg #[.int .i64 f, .int .i64 h, .int .i64 s, .int .i64 c], .int .i64 half, .int .i64 k] w fun e w' => e = .returned (.int .i64 (gir f h s half k)) ∧ Below w.heap.size w w' := by
  obtain ⟨p1, p2, p3, p4⟩ := gir_bd v hh h0 h1
  have hv := wd_of v
  have HG : Hid (gir f h s half k = f + half * h + k * s) := Lib.hid rfl
  have q1 : 0 ≤ f := by omega
  have q2 : f ≤ 3000 := by omega
  clear v hh hv
  go_enter Try.func53, Try.ntmps53
  go_wp2_with fail
  all_goals (try go_quiet (fail))
  all_goals (try go_wp2_with fail)
  all_goals
    go_ret
    exact ⟨ret_int (by rw [HG.out]), by first | exact below_box _ _ | exact (below_box _ _).drewN _⟩
theorem igirth (f h s c half k : Int) (v : wdB f h s c = true) (hh : inB half 0 120 = true) (h0 : 0 ≤ k) (h1 : k ≤ 12) (w : World) :
    Calls Try.prog 54 #[.agg #[.int .i64 f, .int .i64 h, .int .i64 s, .int .i64 c], .int .i64 half, .int .i64 k] w fun e w' => e = .returned (.int .i64 (gir f h s half k)) ∧ Below w.heap.size w w' := by
  obtain ⟨p1, p2, p3, p4⟩ := gir_bd v hh h0 h1
  have hv := wd_of v
  have HG : Hid (gir f h s half k = f + half * h + k * s) := Lib.hid rfl
  have q1 : 0 ≤ f := by omega
  have q2 : f ≤ 3000 := by omega
  clear v hh hv
  go_enter Try.func54, Try.ntmps54
  go_wp2_with fail
  all_goals (try go_quiet (fail))
  all_goals (try go_wp2_with fail)
  all_goals
    go_ret
    exact ⟨ret_int (by rw [HG.out]), by first | exact below_box _ _ | exact (below_box _ _).drewN _⟩
end Go.Proofs.Ytcmjbpjeiaifoab.Gi
