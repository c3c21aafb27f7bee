/- LengthOfHalf: the spec's and the program's. -/
import Derived.Test.YtgclhkiiaclkgaaScLib
import Derived.Test.YtgclhkiiaclkgaaFrLib
import Derived.Deep.QuietTactic
import Derived.BigQuiet
namespace Go.Proofs.Ytgclhkiiaclkgaa.Lh
open Go.RowKit Ba Nh Sc Fr

theorem num_bd {s : ByteArray} {b n d half : Int} (v : scB s b n d = true) (hh : inB half 0 120 = true) : 0 ≤ (half + b) * n ∧ (half + b) * n ≤ 220000 ∧ 0 < d ∧ d ≤ 100 := by
  have hv := sc_of v
  have hb := in_of hh
  have a := Int.mul_nonneg (show 0 ≤ half + b by omega) (show 0 ≤ n by omega)
  have c1 := Int.mul_le_mul (show half + b ≤ 220 by omega) (show n ≤ 1000 by omega) (by omega) (by omega)
  omega

theorem len_yes (s : ByteArray) (b n d half : Int) (v : scB s b n d = true) (hh : inB half 0 120 = true) (w : World) :
    Calls Try.prog 98 #[.agg #[.string s, .int .i64 b, .int .i64 n, .int .i64 d], .int .i64 half] w fun e w' =>
      e = .returned (.agg #[.int .i64 ((half + b) * n / gc ((half + b) * n) d), .int .i64 (d / gc ((half + b) * n) d)]) ∧ Below w.heap.size w w' := by
  obtain ⟨p1, p2, p3, p4⟩ := num_bd v hh
  have M := Lib.hid fun w => low_any ((half + b) * n) d p1 p3 (by omega) (by omega) w
  have hv := sc_of v
  have hb := in_of hh
  have q1 : 0 ≤ half + b := by omega
  have q2 : half + b ≤ 220 := by omega
  clear hv hb v hh
  generalize (half + b) * n / gc ((half + b) * n) d = X at M ⊢
  generalize d / gc ((half + b) * n) d = Y at M ⊢
  go_enter Try.func98, Try.ntmps98
  go_wp2_with fail
  refine (M.out _).mono ?_
  rintro e w2 ⟨rfl, b2⟩
  obtain ⟨hb1, k1, r1⟩ := boxes2 b2
  have HB2 := Lib.hid hb1
  obtain ⟨y0, y1⟩ := blk2 r1
  have z0 := blk_free r1 0
  have z1 := blk_free r1 1
  have hlt := lt_of_heap r1
  clear b2 hb1 k1 r1
  go_wp2_with fail
  exact bodyPost_ret (v := .agg #[.int .i64 X, .int .i64 Y]) (by simp [results, Try.results98, go_sem, y0, y1]) rfl ⟨rfl, by repeat (first | exact HB2.out | refine Below.setCell ?_ (by simp) _)⟩
/-- What LengthOfHalf answers: a fraction and a code. -/
def lhB (s : ByteArray) (b n d half : Int) : Bool := scB s b n d && inB half 0 120
def lhN (s : ByteArray) (b n d half : Int) : Int := if lhB s b n d half then (half + b) * n / gc ((half + b) * n) d else 0
def lhD (s : ByteArray) (b n d half : Int) : Int := if lhB s b n d half then d / gc ((half + b) * n) d else 0
def lhC (s : ByteArray) (b n d half : Int) : Int := argE (scB s b n d) (inB half 0 120)
theorem lh_no {s : ByteArray} {b n d half : Int} (h : lhB s b n d half = false) : (argE (scB s b n d) (inB half 0 120) != 0) = true := by
  unfold lhB at h
  cases v : scB s b n d <;> cases r : inB half 0 120 <;> rw [v, r] at h <;> first | rfl | cases h
theorem eq_fr (a b : Int) (w : World) : Calls Try.prog 20 #[.agg #[.int .i64 a, .int .i64 b], .agg #[.int .i64 a, .int .i64 b]] w fun e w' => e = .returned (.bool true) ∧ Below w.heap.size w w' := by
  go_enter Try.func20, Try.ntmps20
  go_wp2_with fail
  go_ret
  exact ⟨rfl, by repeat (first | exact Below.refl _ _ | refine Below.alloc ?_ (by simp) _)⟩
end Go.Proofs.Ytgclhkiiaclkgaa.Lh
