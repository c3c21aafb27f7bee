/- Leathers: the spec's: valid leathers, the stretch, the code; ValidLeather. -/
import Derived.Test.YtgclhkiiaclkgaaOwLib
import Derived.Test.YtgclhkiiaclkgaaFgLib
import Derived.Deep.DeepCutAuto
namespace Go.Proofs.Ytgclhkiiaclkgaa.Ja
set_option linter.unusedVariables false
open Go.RowKit Qb
open Go.Proofs.Ytgclhkiiaclkgaa.Ba (inB below_then below_box blk_keep blk4 blk_free ret_bool ret_int)

abbrev leV (a c s m : Int) : Value := .agg #[.int .i64 a, .int .i64 c, .int .i64 s, .int .i64 m]
abbrev leO (a c s m : Int) : Obj := .cells #[.int .i64 a, .int .i64 c, .int .i64 s, .int .i64 m] 25
def leB (a c s m : Int) : Bool := inB a 0 100 && (inB c 0 100 && (inB s 0 1000 && inB m 1 500))
/-- Four times the give in a direction. -/
def gv (a c d : Int) : Int := a * (4 - d) + c * d
/-- Forty times the stretch. -/
def st (a c d f : Int) : Int := gv a c d * f
def dirB (d : Int) : Bool := inB d 0 4
def lenB (n : Int) : Bool := inB n 1 10000
def frcB (f : Int) : Bool := inB f 0 1000
def asB (d n f : Int) : Bool := dirB d && (lenB n && frcB f)
def leC (a c s m d n f : Int) : Int := if leB a c s m = false then 1 else if asB d n f = false then 2 else if 40 * m < st a c d f then 10 else 0
theorem prod_le {x y X Y : Int} (h1 : 0 ≤ x ∧ x ≤ X) (h2 : 0 ≤ y ∧ y ≤ Y) : 0 ≤ x * y ∧ x * y ≤ X * Y :=
  ⟨Int.mul_nonneg h1.1 h2.1, Int.mul_le_mul h1.2 h2.2 h2.1 (by omega)⟩
theorem inb {n a b : Int} (h : inB n a b = true) : a ≤ n ∧ n ≤ b := by unfold inB at h; simpa using h
theorem le_in {a c s m : Int} (h : leB a c s m = true) : (0 ≤ a ∧ a ≤ 100) ∧ (0 ≤ c ∧ c ≤ 100) ∧ (0 ≤ s ∧ s ≤ 1000) ∧ (1 ≤ m ∧ m ≤ 500) := by
  unfold leB at h
  simp only [Bool.and_eq_true] at h
  exact ⟨inb h.1, inb h.2.1, inb h.2.2.1, inb h.2.2.2⟩
theorem as_in {d n f : Int} (h : asB d n f = true) : (0 ≤ d ∧ d ≤ 4) ∧ (1 ≤ n ∧ n ≤ 10000) ∧ (0 ≤ f ∧ f ≤ 1000) := by
  unfold asB dirB lenB frcB at h
  simp only [Bool.and_eq_true] at h
  exact ⟨inb h.1, inb h.2.1, inb h.2.2⟩
theorem gv_in {a c d : Int} (ha : 0 ≤ a ∧ a ≤ 100) (hc : 0 ≤ c ∧ c ≤ 100) (hd : 0 ≤ d ∧ d ≤ 4) : 0 ≤ gv a c d ∧ gv a c d ≤ 800 := by
  obtain ⟨p1, p2⟩ := prod_le ha (show 0 ≤ 4 - d ∧ 4 - d ≤ 4 by omega)
  obtain ⟨q1, q2⟩ := prod_le hc hd
  unfold gv
  omega
theorem st_in {a c d f : Int} (ha : 0 ≤ a ∧ a ≤ 100) (hc : 0 ≤ c ∧ c ≤ 100) (hd : 0 ≤ d ∧ d ≤ 4) (hf : 0 ≤ f ∧ f ≤ 1000) : 0 ≤ st a c d f ∧ st a c d f ≤ 800000 := by
  have := prod_le (gv_in ha hc hd) hf
  unfold st
  omega
theorem lec_cases (a c s m d n f : Int) : (leB a c s m = false → leC a c s m d n f = 1) ∧ (leB a c s m = true → asB d n f = false → leC a c s m d n f = 2) ∧ (leB a c s m = true → asB d n f = true → 40 * m < st a c d f → leC a c s m d n f = 10) ∧ (leB a c s m = true → asB d n f = true → ¬ 40 * m < st a c d f → leC a c s m d n f = 0) := by
  unfold leC
  refine ⟨fun h => if_pos h, fun h h2 => by simp [h, h2], fun h h2 h3 => by simp [h, h2, h3], fun h h2 h3 => by simp [h, h2, h3]⟩
theorem lec_ok {a c s m d n f : Int} (h : leC a c s m d n f = 0) : leB a c s m = true ∧ asB d n f = true ∧ st a c d f ≤ 40 * m := by
  unfold leC at h
  split at h
  · omega
  · split at h
    · omega
    · split at h
      · omega
      · rename_i h1 h2 h3
        exact ⟨by simpa using h1, by simpa using h2, by omega⟩
/-- What stays: all that lay before, and a leather's box. -/
structure Bx (w wr : World) (o : Obj) : Prop where
  bel : Below w.heap.size w wr
  box : wr.heap[w.heap.size]? = some o
theorem Bx.of (w : World) (o : Obj) : Bx w (w.alloc o) o := ⟨below_box _ _, heap_alloc_new _ _⟩
theorem Bx.below {w wr w' : World} {o : Obj} (h : Bx w wr o) (hb : Below wr.heap.size wr w') : Bx w w' o := ⟨below_then h.bel hb, blk_keep hb h.box⟩

theorem in_any (n a b : Int) (w : World) : Calls Try.prog 67 #[.int .i64 n, .int .i64 a, .int .i64 b] w fun e w' => e = .returned (.bool (inB n a b)) ∧ w = w' := Ba.in_any n a b w
theorem dir_any (n : Int) (w : World) : Calls Try.prog 59 #[.int .i64 n] w fun e w' => e = .returned (.bool (dirB n)) ∧ w = w' := by
  go_enter Try.func59, Try.ntmps59
  go_wp2_with (go_at_call 67; refine (in_any _ _ _ _).mono ?_; rintro e w' ⟨rfl, rfl⟩)
  go_ret
  exact ⟨rfl, rfl⟩
theorem frc_any (n : Int) (w : World) : Calls Try.prog 58 #[.int .i64 n] w fun e w' => e = .returned (.bool (frcB n)) ∧ w = w' := by
  go_enter Try.func58, Try.ntmps58
  go_wp2_with (go_at_call 67; refine (in_any _ _ _ _).mono ?_; rintro e w' ⟨rfl, rfl⟩)
  go_ret
  exact ⟨rfl, rfl⟩
theorem len_any (n : Int) (w : World) : Calls Try.prog 60 #[.int .i64 n] w fun e w' => e = .returned (.bool (lenB n)) ∧ w = w' := by
  go_enter Try.func60, Try.ntmps60
  go_wp2_with (go_at_call 67; refine (in_any _ _ _ _).mono ?_; rintro e w' ⟨rfl, rfl⟩)
  go_ret
  exact ⟨rfl, rfl⟩
theorem ok_any (a c s m : Int) (w : World) : Calls Try.prog 47 #[leV a c s m] w fun e w' => e = .returned (.bool (leB a c s m)) ∧ Below w.heap.size w w' := by
  cases c1 : inB a 0 100 <;> cases c2 : inB c 0 100 <;> cases c3 : inB s 0 1000 <;> cases c4 : inB m 1 500
  all_goals
    go_enter Try.func47, Try.ntmps47
    go_wp2_with (go_at_call 67; refine (in_any _ _ _ _).mono ?_; rintro e w' ⟨rfl, rfl⟩)
    go_ret
    exact ⟨ret_bool (by unfold leB; rw [c1, c2, c3, c4]; rfl), (Below.refl _ _).alloc (Nat.le_refl _) _⟩
theorem spec_vl (a c s m : Int) (w : World) : Calls Try.prog 15 #[leV a c s m] w fun e w' => e = .returned (.bool (leB a c s m)) ∧ Below w.heap.size w w' := by
  go_enter Try.func15, Try.ntmps15
  go_wp2_with fail
  refine (ok_any _ _ _ _ _).mono ?_
  rintro e w1 ⟨rfl, b1⟩
  go_wp2_with fail
  go_ret
  exact ⟨rfl, below_then (below_box _ _) b1⟩
theorem give_any (a c s m d : Int) (ha : 0 ≤ a ∧ a ≤ 100) (hc : 0 ≤ c ∧ c ≤ 100) (hd : 0 ≤ d ∧ d ≤ 4) (w : World) : Calls Try.prog 70 #[leV a c s m, .int .i64 d] w fun e w' => e = .returned (.int .i64 (gv a c d)) ∧ Below w.heap.size w w' := by
  obtain ⟨p1, p2⟩ := prod_le ha (show 0 ≤ 4 - d ∧ 4 - d ≤ 4 by omega)
  obtain ⟨q1, q2⟩ := prod_le hc hd
  have t1 : IntKind.i64.wrap (4 - d) = 4 - d := IntWalk.i64_in _ (by omega)
  have t2 : IntKind.i64.wrap (a * (4 - d)) = a * (4 - d) := IntWalk.i64_in _ (by omega)
  have t3 : IntKind.i64.wrap (c * d) = c * d := IntWalk.i64_in _ (by omega)
  have t4 : IntKind.i64.wrap (a * (4 - d) + c * d) = a * (4 - d) + c * d := IntWalk.i64_in _ (by omega)
  go_enter Try.func70, Try.ntmps70
  go_wp2_with fail
  go_ret
  exact ⟨rfl, (Below.refl _ _).alloc (Nat.le_refl _) _⟩
theorem stretch_any (a c s m d f : Int) (ha : 0 ≤ a ∧ a ≤ 100) (hc : 0 ≤ c ∧ c ≤ 100) (hd : 0 ≤ d ∧ d ≤ 4) (hf : 0 ≤ f ∧ f ≤ 1000) (w : World) : Calls Try.prog 51 #[leV a c s m, .int .i64 d, .int .i64 f] w fun e w' => e = .returned (.int .i64 (st a c d f)) ∧ Below w.heap.size w w' := by
  have C := Lib.hid (fun w => give_any a c s m d ha hc hd w)
  have hz := gv_in ha hc hd
  unfold st
  generalize gv a c d = z at C hz ⊢
  have h2 := prod_le hz hf
  have t1 : IntKind.i64.wrap (z * f) = z * f := IntWalk.i64_in _ (by omega)
  go_enter Try.func51, Try.ntmps51
  go_wp2_with fail
  refine (C.out _).mono ?_
  rintro e w1 ⟨rfl, b1⟩
  go_wp2_with fail
  go_ret
  exact ⟨rfl, below_then (below_box _ _) b1⟩
set_option maxHeartbeats 1000000 in
theorem code_any (a c s m d n f : Int) (w : World) : Calls Try.prog 49 #[leV a c s m, .int .i64 d, .int .i64 n, .int .i64 f] w fun e w' => e = .returned (.int .i64 (leC a c s m d n f)) ∧ Below w.heap.size w w' := by
  have CO := Lib.hid (fun w => ok_any a c s m w)
  have CS := Lib.hid (fun (h1 : leB a c s m = true) (h2 : asB d n f = true) w => stretch_any a c s m d f (le_in h1).1 (le_in h1).2.1 (as_in h2).1 (as_in h2).2.2 w)
  have HC := Lib.hid (lec_cases a c s m d n f)
  have HI := Lib.hid (fun h => (le_in (a := a) (c := c) (s := s) (m := m) h).2.2.2)
  have HS := Lib.hid (fun (h1 : leB a c s m = true) (h2 : asB d n f = true) => st_in (le_in h1).1 (le_in h1).2.1 (as_in h2).1 (as_in h2).2.2)
  have CD := Lib.hid (fun w => dir_any d w)
  have CL := Lib.hid (fun w => len_any n w)
  have CF := Lib.hid (fun w => frc_any f w)
  have HA : Hid (asB d n f = (dirB d && (lenB n && frcB f))) := Lib.hid rfl
  have BX := Lib.hid (Bx.of w (leO a c s m))
  generalize leB a c s m = ok at CO CS HC HI HS
  generalize asB d n f = ab at CS HC HS HA
  generalize leC a c s m d n f = r at HC ⊢
  generalize st a c d f = x at CS HC HS
  generalize dirB d = k1 at CD HA
  generalize lenB n = k2 at CL HA
  generalize frcB f = k3 at CF HA
  go_enter Try.func49, Try.ntmps49
  go_upto_region 1 with fail
  generalize hw9 : w.alloc _ = w0 at BX ⊢
  clear hw9
  obtain ⟨z0, z1, z2, z3⟩ := blk4 BX.out.box
  go_wp2_with fail
  refine (CO.out _).mono ?_
  rintro e w1 ⟨rfl, b1⟩
  have BX1 := Lib.hid (BX.out.below b1)
  clear b1 BX CO z0 z1 z2 z3
  cases ok
  · have HR := Lib.hid (HC.out.1 rfl)
    clear HC CS HI HS
    go_wp2_with fail
    go_ret
    exact ⟨ret_int HR.out.symm, BX1.out.bel⟩
  have h2 := Lib.hid (HC.out.2.1 rfl)
  have h3 := Lib.hid (HC.out.2.2.1 rfl)
  have h4 := Lib.hid (HC.out.2.2.2 rfl)
  have hm := HI.out rfl
  have S1 := Lib.hid (CS.out rfl)
  have S2 := Lib.hid (HS.out rfl)
  clear HC CS HI HS
  cases k1 <;> cases k2 <;> cases k3
  case true.true.true =>
    have ha : ab = true := HA.out
    subst ha
    have hx := S2.out rfl
    have S3 := Lib.hid (fun p : Beyond w1 => S1.out rfl p.to)
    have g3 := Lib.hid (h3.out rfl)
    have g4 := Lib.hid (h4.out rfl)
    clear S1 S2 h2 h3 h4 HA
    obtain ⟨z0, z1, z2, z3⟩ := blk4 BX1.out.box
    have z0' := bey_cell z0
    have z1' := bey_cell z1
    have z2' := bey_cell z2
    have z3' := bey_cell z3
    clear z0 z1 z2 z3
    go_upto_region 5 with (first | (go_at_call 59; refine (CD.out _).mono ?_; rintro e w' ⟨rfl, rfl⟩) | (go_at_call 60; refine (CL.out _).mono ?_; rintro e w' ⟨rfl, rfl⟩) | (go_at_call 58; refine (CF.out _).mono ?_; rintro e w' ⟨rfl, rfl⟩))
    refine wp_region_below (by kernel_rfl) (by kernel_rfl) ?_
    repeat (go_big_quiet_step ((go_at_call 51; with_reducible exact bey_of _ (S3.out _))))
    refine wpQuiet_nil ?_
    rintro _ ⟨pq, rfl⟩
    have HQ := Lib.hid (below_then BX1.out.bel pq.h)
    generalize pq.to = wq at HQ ⊢
    clear z0' z1' z2' z3' S3 BX1
    by_cases hx4 : 40 * m < x
    · have HR := Lib.hid (g3.out hx4)
      go_wp2_with fail
      go_ret
      exact ⟨ret_int HR.out.symm, HQ.out⟩
    · have HR := Lib.hid (g4.out (by omega))
      go_wp2_with fail
      go_ret
      exact ⟨ret_int HR.out.symm, HQ.out⟩
  all_goals
    have ha : ab = false := HA.out
    subst ha
    have HR := Lib.hid (h2.out rfl)
    clear S1 S2 h2 h3 h4 HA
    go_wp2_with (first | (go_at_call 59; refine (CD.out _).mono ?_; rintro e w' ⟨rfl, rfl⟩) | (go_at_call 60; refine (CL.out _).mono ?_; rintro e w' ⟨rfl, rfl⟩) | (go_at_call 58; refine (CF.out _).mono ?_; rintro e w' ⟨rfl, rfl⟩))
    go_ret
    exact ⟨ret_int HR.out.symm, BX1.out.bel⟩
end Go.Proofs.Ytgclhkiiaclkgaa.Ja
