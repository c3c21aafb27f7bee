/- LengthOfHalf: the spec's and the program's. -/
import Derived.Test.YtggbdpamjjgakabScLib
import Derived.Test.YtggbdpamjjgakabFrLib
import Derived.Deep.QuietTactic
import Derived.BigQuiet
namespace Go.Proofs.Ytggbdpamjjgakab.Lh
open Go.RowKit Ba Nh Sc Fr

theorem code_any (s : ByteArray) (b n d half : Int) (hs : s.size ≤ maxLen) (w : World) : Calls Try.prog 57 #[.agg #[.string s, .int .i64 b, .int .i64 n, .int .i64 d], .int .i64 half] w fun e w' => e = .returned (.int .i64 (argE (scB s b n d) (inB half 0 120))) ∧ Below w.heap.size w w' := by
  have C := Lib.hid fun w => ok_any s b n d hs w
  clear hs
  cases v : scB s b n d <;> rw [v] at C <;> cases r : inB half 0 120
  all_goals
    go_enter Try.func57, Try.ntmps57
    go_wp2_with fail
    refine (C.out _).mono ?_
    rintro e w1 ⟨rfl, b1⟩
    have HB := Lib.hid (below_then (below_box _ _) b1)
    clear b1
    go_wp2_with (go_at_call 65; refine (shalf_any _ _).mono ?_; rintro e w' ⟨rfl, rfl⟩)
    go_ret
    exact ⟨rfl, HB.out⟩
theorem num_bd {s : ByteArray} {b n d half : Int} (v : scB s b n d = true) (hh : inB half 0 120 = true) : 0 ≤ (half + b) * n ∧ (half + b) * n ≤ 220000 ∧ 0 < d ∧ d ≤ 100 := by
  have hv := sc_of v
  have hb := in_of hh
  have a := Int.mul_nonneg (show 0 ≤ half + b by omega) (show 0 ≤ n by omega)
  have c1 := Int.mul_le_mul (show half + b ≤ 220 by omega) (show n ≤ 1000 by omega) (by omega) (by omega)
  omega

set_option maxHeartbeats 1000000 in
theorem spec_yes (s : ByteArray) (b n d half : Int) (hs : s.size ≤ maxLen) (v : scB s b n d = true) (hh : inB half 0 120 = true) (w : World) :
    Calls Try.prog 26 #[.agg #[.string s, .int .i64 b, .int .i64 n, .int .i64 d], .int .i64 half] w fun e w' =>
      e = .returned (.tuple #[.agg #[.int .i64 ((half + b) * n / gc ((half + b) * n) d), .int .i64 (d / gc ((half + b) * n) d)], .int .i64 0]) ∧ Below w.heap.size w w' := by
  have C := Lib.hid fun w => code_any s b n d half hs w
  rw [v, hh] at C
  obtain ⟨p1, p2, p3, p4⟩ := num_bd v hh
  have M := Lib.hid fun w => make_any ((half + b) * n) d p1 p3 (by omega) (by omega) w
  have hv := sc_of v
  have hb := in_of hh
  have q1 : 0 ≤ half + b := by omega
  have q2 : half + b ≤ 220 := by omega
  clear hv hb v hh hs
  generalize (half + b) * n / gc ((half + b) * n) d = X at M ⊢
  generalize d / gc ((half + b) * n) d = Y at M ⊢
  go_enter Try.func26, Try.ntmps26
  go_wp2_with fail
  refine (C.out _).mono ?_
  rintro e w1 ⟨rfl, b1⟩
  obtain ⟨hb1, k1, r1⟩ := boxes2 b1
  have HB1 := Lib.hid hb1
  have R1 := Lib.hid r1
  obtain ⟨x0, x1, x2, x3⟩ := blk4 k1
  clear b1 hb1 k1 r1
  go_wp2_with fail
  refine (M.out _).mono ?_
  rintro e w2 ⟨rfl, b2⟩
  have HB2 := Lib.hid (below_then HB1.out b2)
  have R2 := Lib.hid (blk_keep b2 R1.out)
  obtain ⟨y0, y1⟩ := blk2 R2.out
  have z0 := blk_free R2.out 0
  have z1 := blk_free R2.out 1
  have hlt := lt_of_heap R2.out
  clear b2 x0 x1 x2 x3
  go_wp2_with fail
  exact bodyPost_ret (v := .tuple #[.agg #[.int .i64 X, .int .i64 Y], .int .i64 0]) (by simp [results, Try.results26, go_sem, y0, y1]) rfl ⟨rfl, by repeat (first | exact HB2.out | refine Below.setCell ?_ (by simp) _)⟩
theorem len_yes (s : ByteArray) (b n d half : Int) (v : scB s b n d = true) (hh : inB half 0 120 = true) (w : World) :
    Calls Try.prog 60 #[.agg #[.string s, .int .i64 b, .int .i64 n, .int .i64 d], .int .i64 half] w fun e w' =>
      e = .returned (.agg #[.int .i64 ((half + b) * n / gc ((half + b) * n) d), .int .i64 (d / gc ((half + b) * n) d)]) ∧ Below w.heap.size w w' := by
  obtain ⟨p1, p2, p3, p4⟩ := num_bd v hh
  have M := Lib.hid fun w => low_any ((half + b) * n) d p1 p3 (by omega) (by omega) w
  have hv := sc_of v
  have hb := in_of hh
  have q1 : 0 ≤ half + b := by omega
  have q2 : half + b ≤ 220 := by omega
  clear hv hb v hh
  generalize (half + b) * n / gc ((half + b) * n) d = X at M ⊢
  generalize d / gc ((half + b) * n) d = Y at M ⊢
  go_enter Try.func60, Try.ntmps60
  go_wp2_with fail
  refine (M.out _).mono ?_
  rintro e w2 ⟨rfl, b2⟩
  obtain ⟨hb1, k1, r1⟩ := boxes2 b2
  have HB2 := Lib.hid hb1
  obtain ⟨y0, y1⟩ := blk2 r1
  have z0 := blk_free r1 0
  have z1 := blk_free r1 1
  have hlt := lt_of_heap r1
  clear b2 hb1 k1 r1
  go_wp2_with fail
  exact bodyPost_ret (v := .agg #[.int .i64 X, .int .i64 Y]) (by simp [results, Try.results60, go_sem, y0, y1]) rfl ⟨rfl, by repeat (first | exact HB2.out | refine Below.setCell ?_ (by simp) _)⟩
set_option maxHeartbeats 1000000 in
theorem impl_yes (s : ByteArray) (b n d half : Int) (hs : s.size ≤ maxLen) (v : scB s b n d = true) (hh : inB half 0 120 = true) (w : World) :
    Calls Try.prog 28 #[.agg #[.string s, .int .i64 b, .int .i64 n, .int .i64 d], .int .i64 half] w fun e w' =>
      e = .returned (.tuple #[.agg #[.int .i64 ((half + b) * n / gc ((half + b) * n) d), .int .i64 (d / gc ((half + b) * n) d)], .int .i64 0]) ∧ Below w.heap.size w w' := by
  have C := Lib.hid fun w => impl_ok s b n d hs w
  rw [v] at C
  have M := Lib.hid fun w => len_yes s b n d half v hh w
  generalize (half + b) * n / gc ((half + b) * n) d = X at M ⊢
  generalize d / gc ((half + b) * n) d = Y at M ⊢
  go_enter Try.func28, Try.ntmps28
  go_wp2_with fail
  refine (C.out _).mono ?_
  rintro e w1 ⟨rfl, b1⟩
  obtain ⟨hb1, k1, r1⟩ := boxes2 b1
  have HB1 := Lib.hid hb1
  have R1 := Lib.hid r1
  obtain ⟨x0, x1, x2, x3⟩ := blk4 k1
  clear b1 hb1 k1 r1
  go_wp2_with (first | (go_at_call 59; refine (half_any _ _).mono ?_; rintro e w' ⟨rfl, rfl⟩) | (go_at_call 42; refine (arg_ok _).mono ?_; rintro e w' ⟨rfl, rfl⟩))
  refine (M.out _).mono ?_
  rintro e w2 ⟨rfl, b2⟩
  have HB2 := Lib.hid (below_then HB1.out b2)
  have R2 := Lib.hid (blk_keep b2 R1.out)
  obtain ⟨y0, y1⟩ := blk2 R2.out
  have z0 := blk_free R2.out 0
  have z1 := blk_free R2.out 1
  have hlt := lt_of_heap R2.out
  clear b2 x0 x1 x2 x3
  go_wp2_with fail
  exact bodyPost_ret (v := .tuple #[.agg #[.int .i64 X, .int .i64 Y], .int .i64 0]) (by simp [results, Try.results28, go_sem, y0, y1]) rfl ⟨rfl, by repeat (first | exact HB2.out | refine Below.setCell ?_ (by simp) _)⟩
theorem spec_no (s : ByteArray) (b n d half : Int) (hs : s.size ≤ maxLen) (ha : (argE (scB s b n d) (inB half 0 120) != 0) = true) (w : World) :
    Calls Try.prog 26 #[.agg #[.string s, .int .i64 b, .int .i64 n, .int .i64 d], .int .i64 half] w fun e w' =>
      e = .returned (.tuple #[.agg #[.int .i64 0, .int .i64 0], .int .i64 (argE (scB s b n d) (inB half 0 120))]) ∧ Below w.heap.size w w' := by
  have C := Lib.hid fun w => code_any s b n d half hs w
  generalize argE (scB s b n d) (inB half 0 120) = c at ha C ⊢
  go_enter Try.func26, Try.ntmps26
  go_wp2_with fail
  refine (C.out _).mono ?_
  rintro e w1 ⟨rfl, b1⟩
  obtain ⟨hb1, k1, r1⟩ := boxes2 b1
  have HB1 := Lib.hid hb1
  obtain ⟨y0, y1⟩ := blk2 r1
  have z0 := blk_free r1 0
  have z1 := blk_free r1 1
  have hlt := lt_of_heap r1
  clear b1 hb1 k1 r1
  go_wp2_with fail
  exact bodyPost_ret (v := .tuple #[.agg #[.int .i64 0, .int .i64 0], .int .i64 c]) (by simp [results, Try.results26, go_sem, y0, y1]) rfl ⟨rfl, by repeat (first | exact HB1.out | refine Below.setCell ?_ (by simp) _)⟩
theorem impl_no (s : ByteArray) (b n d half : Int) (hs : s.size ≤ maxLen) (ha : (argE (scB s b n d) (inB half 0 120) != 0) = true) (w : World) :
    Calls Try.prog 28 #[.agg #[.string s, .int .i64 b, .int .i64 n, .int .i64 d], .int .i64 half] w fun e w' =>
      e = .returned (.tuple #[.agg #[.int .i64 0, .int .i64 0], .int .i64 (argE (scB s b n d) (inB half 0 120))]) ∧ Below w.heap.size w w' := by
  have C := Lib.hid fun w => impl_ok s b n d hs w
  have D := Lib.hid fun w => arg_any (scB s b n d) (inB half 0 120) w
  generalize argE (scB s b n d) (inB half 0 120) = c at ha D ⊢
  generalize scB s b n d = v at C D
  generalize hh : inB half 0 120 = hv at D
  go_enter Try.func28, Try.ntmps28
  go_wp2_with fail
  refine (C.out _).mono ?_
  rintro e w1 ⟨rfl, b1⟩
  obtain ⟨hb1, k1, r1⟩ := boxes2 b1
  have HB1 := Lib.hid hb1
  obtain ⟨y0, y1⟩ := blk2 r1
  have z0 := blk_free r1 0
  have z1 := blk_free r1 1
  have hlt := lt_of_heap r1
  clear b1 hb1 k1 r1
  go_wp2_with (first | (go_at_call 59; refine (half_any _ _).mono ?_; rw [hh]; rintro e w' ⟨rfl, rfl⟩) | (go_at_call 42; refine (D.out _).mono ?_; rintro e w' ⟨rfl, rfl⟩))
  exact bodyPost_ret (v := .tuple #[.agg #[.int .i64 0, .int .i64 0], .int .i64 c]) (by simp [results, Try.results28, go_sem, y0, y1]) rfl ⟨rfl, by repeat (first | exact HB1.out | refine Below.setCell ?_ (by simp) _)⟩

/-- What LengthOfHalf answers: a fraction and a code. -/
def lhB (s : ByteArray) (b n d half : Int) : Bool := scB s b n d && inB half 0 120
def lhN (s : ByteArray) (b n d half : Int) : Int := if lhB s b n d half then (half + b) * n / gc ((half + b) * n) d else 0
def lhD (s : ByteArray) (b n d half : Int) : Int := if lhB s b n d half then d / gc ((half + b) * n) d else 0
def lhC (s : ByteArray) (b n d half : Int) : Int := argE (scB s b n d) (inB half 0 120)
theorem lh_no {s : ByteArray} {b n d half : Int} (h : lhB s b n d half = false) : (argE (scB s b n d) (inB half 0 120) != 0) = true := by
  unfold lhB at h
  cases v : scB s b n d <;> cases r : inB half 0 120 <;> rw [v, r] at h <;> first | rfl | cases h
theorem spec_all (s : ByteArray) (b n d half : Int) (hs : s.size ≤ maxLen) (w : World) :
    Calls Try.prog 26 #[.agg #[.string s, .int .i64 b, .int .i64 n, .int .i64 d], .int .i64 half] w fun e w' =>
      e = .returned (.tuple #[.agg #[.int .i64 (lhN s b n d half), .int .i64 (lhD s b n d half)], .int .i64 (lhC s b n d half)]) ∧ Below w.heap.size w w' := by
  unfold lhN lhD lhC
  cases h : lhB s b n d half
  · exact spec_no s b n d half hs (lh_no h) w
  · have h' := h
    unfold lhB at h'
    simp only [Bool.and_eq_true] at h'
    have := spec_yes s b n d half hs h'.1 h'.2 w
    rw [h'.1, h'.2]
    exact this
theorem impl_all (s : ByteArray) (b n d half : Int) (hs : s.size ≤ maxLen) (w : World) :
    Calls Try.prog 28 #[.agg #[.string s, .int .i64 b, .int .i64 n, .int .i64 d], .int .i64 half] w fun e w' =>
      e = .returned (.tuple #[.agg #[.int .i64 (lhN s b n d half), .int .i64 (lhD s b n d half)], .int .i64 (lhC s b n d half)]) ∧ Below w.heap.size w w' := by
  unfold lhN lhD lhC
  cases h : lhB s b n d half
  · exact impl_no s b n d half hs (lh_no h) w
  · have h' := h
    unfold lhB at h'
    simp only [Bool.and_eq_true] at h'
    have := impl_yes s b n d half hs h'.1 h'.2 w
    rw [h'.1, h'.2]
    exact this
theorem eq_fr (a b : Int) (w : World) : Calls Try.prog 23 #[.agg #[.int .i64 a, .int .i64 b], .agg #[.int .i64 a, .int .i64 b]] w fun e w' => e = .returned (.bool true) ∧ Below w.heap.size w w' := by
  go_enter Try.func23, Try.ntmps23
  go_wp2_with fail
  go_ret
  exact ⟨rfl, by repeat (first | exact Below.refl _ _ | refine Below.alloc ?_ (by simp) _)⟩
end Go.Proofs.Ytggbdpamjjgakab.Lh
