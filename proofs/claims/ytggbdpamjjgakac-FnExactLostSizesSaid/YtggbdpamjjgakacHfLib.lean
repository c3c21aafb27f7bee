/- HalfFor and NearestHalf: the spec's loops, the program's, and what both answer. -/
import Derived.Test.YtggbdpamjjgakacSwLib
namespace Go.Proofs.Ytggbdpamjjgakac.Hf
open Go.RowKit Ba Nh Sc Fr Lh Sr Sw

/-- What HalfFor answers for arguments that are as they must be. -/
def hfE (r : Nat) : Value := if r < 121 then .tuple #[.int .i64 (r : Int), .int .i64 0] else .tuple #[.int .i64 0, .int .i64 3]

/-- What HalfFor answers: half sizes and a code. -/
def hfB (s : ByteArray) (b n d l : Int) : Bool := scB s b n d && inB l 0 5000
def hfV (s : ByteArray) (b n d l : Int) : Int := if hfB s b n d l then (if least b n l d < 121 then (least b n l d : Int) else 0) else 0
def hfC (s : ByteArray) (b n d l : Int) : Int := if hfB s b n d l then (if least b n l d < 121 then 0 else 3) else argE (scB s b n d) (inB l 0 5000)
theorem hf_yes {s : ByteArray} {b n d l : Int} (h : hfB s b n d l = true) : hfE (least b n l d) = .tuple #[.int .i64 (hfV s b n d l), .int .i64 (hfC s b n d l)] := by
  unfold hfE hfV hfC
  rw [h]
  simp only [if_true]
  split <;> rfl
theorem hf_no {s : ByteArray} {b n d l : Int} (h : hfB s b n d l = false) : hfV s b n d l = 0 ∧ hfC s b n d l = argE (scB s b n d) (inB l 0 5000) ∧ (argE (scB s b n d) (inB l 0 5000) != 0) = true := by
  unfold hfV hfC
  rw [h]
  refine ⟨rfl, rfl, ?_⟩
  unfold hfB at h
  cases v : scB s b n d <;> cases r : inB l 0 5000 <;> rw [v, r] at h <;> first | rfl | cases h
end Go.Proofs.Ytggbdpamjjgakac.Hf
