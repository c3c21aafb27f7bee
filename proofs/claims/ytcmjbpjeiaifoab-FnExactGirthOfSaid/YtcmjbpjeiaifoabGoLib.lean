/- GirthOf: the spec's and the program's. -/
import Derived.Test.YtcmjbpjeiaifoabGiLib
namespace Go.Proofs.Ytcmjbpjeiaifoab.Go1
open Go.RowKit Ba Nh Wd Gi

/-- What GirthOf answers: a girth and a code. -/
def giV (f h s c half k : Int) : Int := if wdB f h s c && (inB half 0 120 && inB k 0 (c - 1)) then gir f h s half k else 0
def giC (f h s c half k : Int) : Int := argE (wdB f h s c) (inB half 0 120 && inB k 0 (c - 1))

set_option maxHeartbeats 1000000 in
theorem spec_gi (f h s c half k : Int) (w : World) :
    Calls Try.prog 33 #[.agg #[.int .i64 f, .int .i64 h, .int .i64 s, .int .i64 c], .int .i64 half, .int .i64 k] w fun e w' => e = .returned (.tuple #[.int .i64 (giV f h s c half k), .int .i64 (giC f h s c half k)]) ∧ Below w.heap.size w w' := by
  have C := Lib.hid fun w => ok_any f h s c w
  have HV : Hid (giV f h s c half k = if wdB f h s c && (inB half 0 120 && inB k 0 (c - 1)) then gir f h s half k else 0) := Lib.hid rfl
  have HC : Hid (giC f h s c half k = argE (wdB f h s c) (inB half 0 120 && inB k 0 (c - 1))) := Lib.hid rfl
  cases v : wdB f h s c
  · rw [v] at C HV HC
    go_enter Try.func33, Try.ntmps33
    go_wp2_with fail
    refine (C.out _).mono ?_
    rintro e w1 ⟨rfl, b1⟩
    go_wp2_with fail
    go_ret2
    exact ⟨ret_two (by rw [HV.out]; rfl) (by rw [HC.out]; rfl), below_then (below_box _ _) b1⟩
  · have hv := wd_of v
    have hc0 : 0 ≤ c - 1 := by omega
    have hc1 : c - 1 ≤ 11 := by omega
    have G := Lib.hid fun hh h0 h1 w => sgirth f h s c half k v hh h0 h1 w
    rw [v] at C HV HC
    clear hv
    cases a : inB half 0 120
    · rw [a] at HV HC
      clear G
      go_enter Try.func33, Try.ntmps33
      go_wp2_with fail
      refine (C.out _).mono ?_
      rintro e w1 ⟨rfl, b1⟩
      obtain ⟨x0, x1, x2, x3⟩ := box4 b1
      have HB := Lib.hid (below_then (below_box _ _) b1)
      clear b1
      go_wp2_with (go_at_call 49; refine (shalf_any _ _).mono ?_; rintro e w' ⟨rfl, rfl⟩)
      go_ret2
      exact ⟨ret_two (by rw [HV.out]; rfl) (by rw [HC.out]; rfl), HB.out⟩
    · rw [a] at HV HC G
      cases b : inB k 0 (c - 1)
      · rw [b] at HV HC
        clear G
        go_enter Try.func33, Try.ntmps33
        go_wp2_with fail
        refine (C.out _).mono ?_
        rintro e w1 ⟨rfl, b1⟩
        obtain ⟨x0, x1, x2, x3⟩ := box4 b1
        have HB := Lib.hid (below_then (below_box _ _) b1)
        clear b1
        go_wp2_with (first | (go_at_call 49; refine (shalf_any _ _).mono ?_; rintro e w' ⟨rfl, rfl⟩) | (go_at_call 51; refine (in_any _ _ _ _).mono ?_; rintro e w' ⟨rfl, rfl⟩))
        go_ret2
        exact ⟨ret_two (by rw [HV.out]; rfl) (by rw [HC.out]; rfl), HB.out⟩
      · have hk := in_of b
        have G' := Lib.hid fun w => G.out rfl hk.1 (by omega) w
        rw [b] at HV HC
        clear G hk
        go_enter Try.func33, Try.ntmps33
        go_wp2_with fail
        refine (C.out _).mono ?_
        rintro e w1 ⟨rfl, b1⟩
        obtain ⟨x0, x1, x2, x3⟩ := box4 b1
        have HB := Lib.hid (below_then (below_box _ _) b1)
        clear b1
        go_wp2_with (first | (go_at_call 49; refine (shalf_any _ _).mono ?_; rintro e w' ⟨rfl, rfl⟩) | (go_at_call 51; refine (in_any _ _ _ _).mono ?_; rintro e w' ⟨rfl, rfl⟩))
        refine (G'.out _).mono ?_
        rintro e w2 ⟨rfl, b2⟩
        have HB2 := Lib.hid (below_then HB.out b2)
        clear x0 x1 x2 x3 b2
        go_wp2_with fail
        go_ret2
        exact ⟨ret_two (by rw [HV.out]; rfl) (by rw [HC.out]; rfl), HB2.out⟩

set_option maxHeartbeats 1000000 in
theorem impl_gi (f h s c half k : Int) (w : World) :
    Calls Try.prog 34 #[.agg #[.int .i64 f, .int .i64 h, .int .i64 s, .int .i64 c], .int .i64 half, .int .i64 k] w fun e w' => e = .returned (.tuple #[.int .i64 (giV f h s c half k), .int .i64 (giC f h s c half k)]) ∧ Below w.heap.size w w' := by
  have C := Lib.hid fun w => impl_ok f h s c w
  have HV : Hid (giV f h s c half k = if wdB f h s c && (inB half 0 120 && inB k 0 (c - 1)) then gir f h s half k else 0) := Lib.hid rfl
  have HC : Hid (giC f h s c half k = argE (wdB f h s c) (inB half 0 120 && inB k 0 (c - 1))) := Lib.hid rfl
  have HI : Hid (∀ u, inB half 0 120 = true → 0 ≤ k → k < c → wdB f h s c = true → Calls Try.prog 54 #[.agg #[.int .i64 f, .int .i64 h, .int .i64 s, .int .i64 c], .int .i64 half, .int .i64 k] u fun e w' => e = .returned (.int .i64 (gir f h s half k)) ∧ Below u.heap.size u w') := Lib.hid fun u hh h0 h1 v => igirth f h s c half k v hh h0 (by have := wd_of v; omega) u
  have HR : Hid (inB k 0 (c - 1) = (decide (0 ≤ k) && decide (k < c))) := Lib.hid (by rw [Bool.eq_iff_iff]; simp [inB]; omega)
  rw [HR.out] at HV HC
  have MAIN : ∀ (v a x y : Bool), wdB f h s c = v → inB half 0 120 = a → decide (0 ≤ k) = x → decide (k < c) = y →
      Calls Try.prog 34 #[.agg #[.int .i64 f, .int .i64 h, .int .i64 s, .int .i64 c], .int .i64 half, .int .i64 k] w fun e w' => e = .returned (.tuple #[.int .i64 (giV f h s c half k), .int .i64 (giC f h s c half k)]) ∧ Below w.heap.size w w' := by
    intro v a x y ev ea ex ey
    rw [ev, ea, ex, ey] at HV HC
    rw [ev] at C
    have HI' : Hid (a = true → x = true → y = true → v = true → ∀ u, Calls Try.prog 54 #[.agg #[.int .i64 f, .int .i64 h, .int .i64 s, .int .i64 c], .int .i64 half, .int .i64 k] u fun e w' => e = .returned (.int .i64 (gir f h s half k)) ∧ Below u.heap.size u w') :=
      Lib.hid fun ha hx hy hv u => HI.out u (ea.trans ha) (by simpa using ex.trans hx) (by simpa using ey.trans hy) (ev.trans hv)
    clear HI HR ev
    cases a <;> cases x <;> cases y <;> cases v
    all_goals
      go_enter Try.func34, Try.ntmps34
      go_wp2_with (go_at_call 43; refine (half_any _ _).mono ?_; rintro e w' ⟨rfl, rfl⟩)
      refine (C.out _).mono ?_
      rintro e w1 ⟨rfl, b1⟩
      obtain ⟨x0, x1, x2, x3⟩ := box4 b1
      have HB := Lib.hid (below_then (below_box _ _) b1)
      clear b1
      go_wp2_with (go_at_call 42; refine (arg_any _ _ _).mono ?_; rintro e w' ⟨rfl, rfl⟩)
      first
        | (go_ret2; exact ⟨ret_two (by rw [HV.out]; rfl) (by rw [HC.out]; rfl), HB.out⟩)
        | (refine ((HI'.out (by trivial) (by trivial) (by trivial) (by trivial)) _).mono ?_
           rintro e w2 ⟨rfl, b2⟩
           have HB2 := Lib.hid (below_then HB.out b2)
           clear x0 x1 x2 x3 b2
           go_wp2_with fail
           go_ret2
           exact ⟨ret_two (by rw [HV.out]; rfl) (by rw [HC.out]; rfl), HB2.out⟩)
  exact MAIN _ _ _ _ rfl rfl rfl rfl
end Go.Proofs.Ytcmjbpjeiaifoab.Go1
