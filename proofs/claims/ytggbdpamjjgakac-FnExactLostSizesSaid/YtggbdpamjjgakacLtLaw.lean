/- The law of LostSizes: both cases. -/
import Derived.Test.YtggbdpamjjgakacLsLaw
namespace Go.Proofs.Ytggbdpamjjgakac.Lt
open Go.RowKit Ba Sc Sr Cv Is Ls
set_option linter.unusedVariables false

theorem slice_no {c : Int} {w w' : World} {e : Ending} (h : e = .returned (.tuple #[.slice none 0 0, .int .i64 c]) ∧ Below w.heap.size w w') : SliceAt 0 (fun _ => 0) c w e w' :=
  ⟨none, 0, h.1, Lib.hid fun h => absurd h (by omega), h.2⟩
theorem law (s : ByteArray) (b n d : Int) (s' : ByteArray) (b' n' d' f t : Int) (w : World) (hs : s.size ≤ maxLen) (_ : (Lit.int .i64 b).wf = true) (_ : (Lit.int .i64 n).wf = true) (_ : (Lit.int .i64 d).wf = true)
    (hs' : s'.size ≤ maxLen) (_ : (Lit.int .i64 b').wf = true) (_ : (Lit.int .i64 n').wf = true) (_ : (Lit.int .i64 d').wf = true) (_ : (Lit.int .i64 f).wf = true) (_ : (Lit.int .i64 t).wf = true) :
    Calls Try.prog 3 #[.agg #[.string s, .int .i64 b, .int .i64 n, .int .i64 d], .agg #[.string s', .int .i64 b', .int .i64 n', .int .i64 d'], .int .i64 f, .int .i64 t] w fun e w' => e = .returned (.bool true) ∧ Below w.heap.size w w' := by
  cases hc : (scB s b n d && scB s' b' n' d') && rngB f t
  · have ha : (argE (scB s b n d && scB s' b' n' d') (rngB f t) != 0) = true := arg_no hc
    exact Ls1.core s b n d s' b' n' d' f t (fun _ => 0) 0 (by omega) _ w hs hs' (Lib.hid fun w => (Ls.spec_no s b n d s' b' n' d' f t hs hs' ha w).mono fun _ _ h => slice_no h) (Lib.hid fun w => (Ls.impl_no s b n d s' b' n' d' f t hs hs' ha w).mono fun _ _ h => slice_no h)
  · unfold rngB at hc
    simp only [Bool.and_eq_true] at hc
    have h1 := in_of hc.2.1
    have h2 := in_of hc.2.2
    have hl := lost_len b n d b' n' d' f (t - f + 1).toNat
    exact Ls1.core s b n d s' b' n' d' f t (fun i => (lostL b n d b' n' d' f (t - f + 1).toNat).getD i 0) (lostL b n d b' n' d' f (t - f + 1).toNat).length (by omega) 0 w hs hs'
      (Lib.hid fun w => Ls.spec_yes s b n d s' b' n' d' f t hs hs' hc.1.1 hc.1.2 hc.2.1 hc.2.2 w) (Lib.hid fun w => Ls.impl_yes s b n d s' b' n' d' f t hs hs' hc.1.1 hc.1.2 hc.2.1 hc.2.2 w)
end Go.Proofs.Ytggbdpamjjgakac.Lt
