/- Lasts: the law's copy, measure and comparison of one; whether one is valid (spec and program). -/
import Derived.Test.YtggbdpamjjgakacGeLib
import Derived.Test.YtggbdpamjjgakacQbLib
import Derived.Test.YtggbdpamjjgakacNmWalks
import Derived.RegionTactic
import Derived.Laws.StructEq
namespace Go.Proofs.Ytggbdpamjjgakac.La
open Go.RowKit Ft Ge Qb

/-- A name. -/
noncomputable def nmB (s : ByteArray) : Bool := tv (Nm.IsNm s)
/-- A last that is valid. -/
noncomputable def laB (s : ByteArray) (f : Nat → Int) : Bool := nmB s && (ftB (f 0) (f 1) (f 2) (f 3) && inB (f 4) 0 1000)
/-- A last. -/
abbrev laV (s : ByteArray) (f : Nat → Int) : Value := .agg #[.string s, .int .i64 (f 0), .int .i64 (f 1), .int .i64 (f 2), .int .i64 (f 3), .int .i64 (f 4)]
/-- Its cells. -/
abbrev laC (s : ByteArray) (f : Nat → Int) (t : TypeId) : Obj := .cells #[.string s, .int .i64 (f 0), .int .i64 (f 1), .int .i64 (f 2), .int .i64 (f 3), .int .i64 (f 4)] t
theorem within_any (n a b : Int) (w : World) : Calls Try.prog 35 #[.int .i64 n, .int .i64 a, .int .i64 b] w fun e w' => e = .returned (.bool (inB n a b)) ∧ w = w' := by
  by_cases h1 : a ≤ n <;> by_cases h2 : n ≤ b
  all_goals
    go_enter Try.func35, Try.ntmps35
    go_wp2
    go_ret
    exact ⟨by simp [inB, h1, h2], rfl⟩
end Go.Proofs.Ytggbdpamjjgakac.La
