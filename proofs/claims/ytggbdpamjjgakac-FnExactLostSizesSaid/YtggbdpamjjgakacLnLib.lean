/- LostSizes: arguments that are not as they must be (spec and program). -/
import Derived.Test.YtggbdpamjjgakacLiLib
namespace Go.Proofs.Ytggbdpamjjgakac.Ls
open Go.RowKit Ba Nh Sc Fr Lh Sr Sw Hf Nr Cv Is

/-- Whether the half sizes are as they must be. -/
def rngB (f t : Int) : Bool := inB f 0 120 && inB t f 120
theorem rng_eq (f t : Int) : rngB f t = (inB f 0 120 && (inB t 0 120 && decide (f ≤ t))) := by
  unfold rngB inB
  rw [Bool.eq_iff_iff]
  simp
  omega
theorem spec_no (s : ByteArray) (b n d : Int) (s' : ByteArray) (b' n' d' f t : Int) (hs : s.size ≤ maxLen) (hs' : s'.size ≤ maxLen) (ha : (argE (scB s b n d && scB s' b' n' d') (rngB f t) != 0) = true) (w : World) :
    Calls Try.prog 6 #[.agg #[.string s, .int .i64 b, .int .i64 n, .int .i64 d], .agg #[.string s', .int .i64 b', .int .i64 n', .int .i64 d'], .int .i64 f, .int .i64 t] w fun e w' => e = .returned (.tuple #[.slice none 0 0, .int .i64 (argE (scB s b n d && scB s' b' n' d') (rngB f t))]) ∧ Below w.heap.size w w' := by
  have C := Lib.hid fun w => ok_any s b n d hs w
  have D := Lib.hid fun w => ok_any s' b' n' d' hs' w
  clear hs hs'
  unfold rngB at *
  cases v : scB s b n d <;> rw [v] at C ha
  · clear ha D
    go_enter Try.func6, Try.ntmps6
    go_wp2_with fail
    refine (C.out _).mono ?_
    rintro e w1 ⟨rfl, b1⟩
    obtain ⟨hb1, k1, r1⟩ := boxes2 b1
    have HB1 := Lib.hid hb1
    clear b1 hb1 k1 r1
    go_wp2_with fail
    go_ret2
    exact ⟨rfl, HB1.out⟩
  · cases v' : scB s' b' n' d' <;> rw [v'] at D ha <;> cases h1 : inB f 0 120 <;> rw [h1] at ha <;> cases h2 : inB t f 120 <;> rw [h2] at ha
    all_goals try (exact absurd ha (by decide))
    all_goals
      clear ha v v'
      go_enter Try.func6, Try.ntmps6
      go_wp2_with fail
      refine (C.out _).mono ?_
      rintro e w1 ⟨rfl, b1⟩
      obtain ⟨hb1, k1, r1⟩ := boxes2 b1
      have HB1 := Lib.hid hb1
      obtain ⟨y0, y1, y2, y3⟩ := blk4 r1
      clear b1 hb1 k1 r1
      go_wp2_with fail
      refine (D.out _).mono ?_
      rintro e w2 ⟨rfl, b2⟩
      have HB2 := Lib.hid (below_then HB1.out b2)
      clear b2 y0 y1 y2 y3 HB1
      go_wp2_with (first | (go_at_call 19; refine (shalf_any _ _).mono ?_; rintro e w' ⟨rfl, rfl⟩) | (go_at_call 20; refine (Ba.in_any _ _ _ _).mono ?_; rintro e w' ⟨rfl, rfl⟩))
      go_ret2
      exact ⟨rfl, HB2.out⟩
set_option maxHeartbeats 2000000 in
theorem impl_no (s : ByteArray) (b n d : Int) (s' : ByteArray) (b' n' d' f t : Int) (hs : s.size ≤ maxLen) (hs' : s'.size ≤ maxLen) (ha : (argE (scB s b n d && scB s' b' n' d') (rngB f t) != 0) = true) (w : World) :
    Calls Try.prog 8 #[.agg #[.string s, .int .i64 b, .int .i64 n, .int .i64 d], .agg #[.string s', .int .i64 b', .int .i64 n', .int .i64 d'], .int .i64 f, .int .i64 t] w fun e w' => e = .returned (.tuple #[.slice none 0 0, .int .i64 (argE (scB s b n d && scB s' b' n' d') (rngB f t))]) ∧ Below w.heap.size w w' := by
  have C := Lib.hid fun w => impl_ok s b n d hs w
  have D := Lib.hid fun w => impl_ok s' b' n' d' hs' w
  clear hs hs'
  have HA := Lib.hid ha
  clear ha
  rw [rng_eq] at HA ⊢
  generalize scB s b n d = v at C HA ⊢
  generalize scB s' b' n' d' = v' at D HA ⊢
  cases h1 : inB f 0 120 <;> cases h2 : inB t 0 120 <;> by_cases h3 : f ≤ t <;> cases v <;> cases v'
  all_goals
    rw [h1, h2] at HA
    simp only [h3, decide_true, decide_false] at HA
    try (exact absurd HA.out (by decide))
  all_goals
    clear HA

    simp only [h3, decide_true, decide_false]
    try (have hd := decide_eq_false h3)
    go_enter Try.func8, Try.ntmps8
    go_wp2_with (go_at_call 22; refine (half_any _ _).mono ?_; rintro e w' ⟨rfl, rfl⟩)
    refine (C.out _).mono ?_
    rintro e w1 ⟨rfl, b1⟩
    obtain ⟨hb1, k1, r1⟩ := boxes2 b1
    have HB1 := Lib.hid hb1
    obtain ⟨y0, y1, y2, y3⟩ := blk4 r1
    clear b1 hb1 k1 r1
    first
      | (go_wp2_with (go_at_call 23; refine (arg_any _ _ _).mono ?_; rintro e w' ⟨rfl, rfl⟩)
         go_ret2
         exact ⟨rfl, HB1.out⟩)
      | (go_wp2_with fail
         refine (D.out _).mono ?_
         rintro e w2 ⟨rfl, b2⟩
         have HB2 := Lib.hid (below_then HB1.out b2)
         clear b2 y0 y1 y2 y3 HB1
         go_wp2_with (go_at_call 23; refine (arg_any _ _ _).mono ?_; rintro e w' ⟨rfl, rfl⟩)
         go_ret2
         exact ⟨rfl, HB2.out⟩)
end Go.Proofs.Ytggbdpamjjgakac.Ls
