/- Leathers: the spec's GreatestPull, PullFor, BestDirection. -/
import Derived.Test.YtgclhkiiaclkgaaJbLib
namespace Go.Proofs.Ytgclhkiiaclkgaa.Jc
set_option linter.unusedVariables false
open Go.RowKit Qb Ja Jb
open Go.Proofs.Ytgclhkiiaclkgaa.Ba (inB below_then below_box blk_keep blk2 blk4 blk_free ret_bool ret_int)

theorem min_any (a b : Int) (w : World) : Calls Try.prog 71 #[.int .i64 a, .int .i64 b] w fun e w' => e = .returned (.int .i64 (min a b)) ∧ w = w' := by
  by_cases h : a < b
  · have HE : Hid (min a b = a) := Lib.hid (by omega)
    go_enter Try.func71, Try.ntmps71
    go_wp2
    go_ret
    exact ⟨ret_int HE.out.symm, rfl⟩
  · have HE : Hid (min a b = b) := Lib.hid (by omega)
    go_enter Try.func71, Try.ntmps71
    go_wp2
    go_ret
    exact ⟨ret_int HE.out.symm, rfl⟩
/-- The code of a leather and a direction. -/
def gpC (a c s m d : Int) : Int := if leB a c s m = false then 1 else if dirB d = false then 2 else 0
def gpV (a c s m d : Int) : Int := if gpC a c s m d = 0 then (if gv a c d = 0 then 1000 else min 1000 (40 * m / gv a c d)) else 0
theorem dir_in {d : Int} (h : dirB d = true) : 0 ≤ d ∧ d ≤ 4 := inb h
set_option maxHeartbeats 1000000 in
theorem spec_gp (a c s m d : Int) (w : World) : Calls Try.prog 37 #[leV a c s m, .int .i64 d] w (IAt (gpV a c s m d) (gpC a c s m d) w) := by
  have BX := Lib.hid (Bx.of w (leO a c s m))
  have CO := Lib.hid (fun w => ok_any a c s m w)
  have CD := Lib.hid (fun w => dir_any d w)
  have CG := Lib.hid (fun (h1 : leB a c s m = true) (h2 : dirB d = true) w => give_any a c s m d (le_in h1).1 (le_in h1).2.1 (dir_in h2) w)
  have GI := Lib.hid (fun (h1 : leB a c s m = true) (h2 : dirB d = true) => gv_in (le_in h1).1 (le_in h1).2.1 (dir_in h2))
  have MI := Lib.hid (fun (h1 : leB a c s m = true) => (le_in h1).2.2.2)
  have CM := Lib.hid (fun x w => min_any 1000 x w)
  have V0 : Hid (leB a c s m = false → gpC a c s m d = 1 ∧ gpV a c s m d = 0) := Lib.hid fun h => by
    have e : gpC a c s m d = 1 := if_pos h
    exact ⟨e, by unfold gpV; rw [e]; rfl⟩
  have V1 : Hid (leB a c s m = true → dirB d = false → gpC a c s m d = 2 ∧ gpV a c s m d = 0) := Lib.hid fun h h1 => by
    have e : gpC a c s m d = 2 := by unfold gpC; simp [h, h1]
    exact ⟨e, by unfold gpV; rw [e]; rfl⟩
  have V2 : Hid (leB a c s m = true → dirB d = true → gpC a c s m d = 0 ∧ (gv a c d = 0 → gpV a c s m d = 1000) ∧ (¬ gv a c d = 0 → gpV a c s m d = min 1000 (40 * m / gv a c d))) := Lib.hid fun h h1 => by
    have e : gpC a c s m d = 0 := by unfold gpC; simp [h, h1]
    exact ⟨e, fun h2 => by unfold gpV; rw [if_pos e, if_pos h2], fun h2 => by unfold gpV; rw [if_pos e, if_neg h2]⟩
  unfold IAt
  generalize gpC a c s m d = rc at V0 V1 V2 ⊢
  generalize gpV a c s m d = rv at V0 V1 V2 ⊢
  generalize leB a c s m = ok at CO CG GI MI V0 V1 V2
  generalize dirB d = kd at CD CG GI V1 V2
  generalize gv a c d = z at CG GI V2
  go_enter Try.func37, Try.ntmps37
  go_upto_region 1 with fail
  generalize hw9 : World.alloc _ _ = w0 at BX ⊢
  clear hw9
  obtain ⟨z0, z1, z2, z3⟩ := blk4 BX.out.box
  go_wp2_with fail
  refine (CO.out _).mono ?_
  rintro e w1 ⟨rfl, b1⟩
  have BX1 := Lib.hid (BX.out.below b1)
  clear b1 BX CO z0 z1 z2 z3
  cases ok
  · obtain ⟨r1, r2⟩ := V0.out rfl
    have R1 := Lib.hid r1
    have R2 := Lib.hid r2
    clear V0 V1 V2 CG GI MI CM r1 r2
    go_wp2_with fail
    exact bodyPost_ret (v := .tuple #[.int .i64 0, .int .i64 1]) (by simp [results, Try.results37, go_sem]) rfl ⟨by rw [R1.out, R2.out], BX1.out.bel⟩
  cases kd
  · obtain ⟨r1, r2⟩ := V1.out rfl rfl
    have R1 := Lib.hid r1
    have R2 := Lib.hid r2
    clear V0 V1 V2 CG GI MI CM r1 r2
    go_wp2_with (go_at_call 59; refine (CD.out _).mono ?_; rintro e w' ⟨rfl, rfl⟩)
    exact bodyPost_ret (v := .tuple #[.int .i64 0, .int .i64 2]) (by simp [results, Try.results37, go_sem]) rfl ⟨by rw [R1.out, R2.out], BX1.out.bel⟩
  obtain ⟨r1, r2, r3⟩ := V2.out rfl rfl
  have R1 := Lib.hid r1
  have R2 := Lib.hid r2
  have R3 := Lib.hid r3
  have CG1 := Lib.hid (CG.out rfl rfl)
  have hm := MI.out rfl
  have hz := GI.out rfl rfl
  clear V0 V1 V2 CG GI MI r1 r2 r3
  obtain ⟨z0, z1, z2, z3⟩ := blk4 BX1.out.box
  go_wp2_with (go_at_call 59; refine (CD.out _).mono ?_; rintro e w' ⟨rfl, rfl⟩)
  refine (CG1.out _).mono ?_
  rintro e w2 ⟨rfl, b2⟩
  have BX2 := Lib.hid (BX1.out.below b2)
  clear b2 BX1 CG1 z0 z1 z2 z3 CD
  by_cases h0 : z = 0
  · have e0 : (z == 0) = true := by simpa using h0
    have HR := Lib.hid (R2.out h0)
    clear R2 R3 CM
    go_wp2_with fail
    exact bodyPost_ret (v := .tuple #[.int .i64 1000, .int .i64 0]) (by simp [results, Try.results37, go_sem]) rfl ⟨by rw [R1.out, HR.out], BX2.out.bel⟩
  · have e0 : (z == 0) = false := by simpa using h0
    have HR := Lib.hid (R3.out h0)
    have q1 : 0 ≤ 40 * m / z := Int.ediv_nonneg (by omega) (by omega)
    have q2 : 40 * m / z ≤ 40 * m := Int.ediv_le_self _ (by omega)
    have q5 : (40 * m).tdiv z = 40 * m / z := Int.tdiv_eq_ediv_of_nonneg (by omega)
    obtain ⟨z0, z1, z2, z3⟩ := blk4 BX2.out.box
    clear R2 R3
    go_wp2_with (go_at_call 71; refine (CM.out _ _).mono ?_; rintro e w' ⟨rfl, rfl⟩)
    exact bodyPost_ret (v := .tuple #[.int .i64 (min 1000 (40 * m / z)), .int .i64 0]) (by simp [results, Try.results37, go_sem]) rfl ⟨by rw [R1.out, HR.out], BX2.out.bel⟩

/-- The first of n numbers from k on for which p holds; k + n if there is none. -/
def fi (p : Nat → Bool) : Nat → Nat → Nat
  | k, 0 => k
  | k, n + 1 => if p k = true then k else fi p (k + 1) n
theorem fi_hit {p : Nat → Bool} {t : Nat} (ht : p t = true) : ∀ {n k : Nat}, k ≤ t → t < k + n → (∀ j, k ≤ j → j < t → p j = false) → fi p k n = t
  | 0, k, h1, h2, _ => by omega
  | n + 1, k, h1, h2, h3 => by
    unfold fi
    by_cases e : k = t
    · subst e; rw [if_pos ht]
    · rw [if_neg (by rw [h3 k (Nat.le_refl _) (by omega)]; simp)]
      exact fi_hit ht (by omega) (by omega) fun j hj => h3 j (by omega)
theorem fi_none {p : Nat → Bool} : ∀ {n k : Nat}, (∀ j, k ≤ j → j < k + n → p j = false) → fi p k n = k + n
  | 0, k, _ => rfl
  | n + 1, k, h => by
    unfold fi
    rw [if_neg (by rw [h k (Nat.le_refl _) (by omega)]; simp), fi_none fun j hj hj2 => h j (by omega) (by omega)]
    omega
/-- Whether a force makes a length the one wanted. -/
def hitB (a c d n t : Int) (k : Nat) : Bool := decide (40000 * t ≤ n * (40000 + st a c d (k : Int)))
def arB (d n t : Int) : Bool := dirB d && (lenB n && lenB t)
noncomputable def puK (a c d n t : Int) : Nat := fi (hitB a c d n t) 0 1001
noncomputable def puC (a c s m d n t : Int) : Int := if leB a c s m = false then 1 else if arB d n t = false then 2 else if puK a c d n t = 1001 then 3 else if 40 * m < st a c d (puK a c d n t : Int) then 10 else 0
noncomputable def puV (a c s m d n t : Int) : Int := if puC a c s m d n t = 0 then (puK a c d n t : Int) else 0
theorem ar_in {d n t : Int} (h : arB d n t = true) : (0 ≤ d ∧ d ≤ 4) ∧ (1 ≤ n ∧ n ≤ 10000) ∧ (1 ≤ t ∧ t ≤ 10000) := by
  unfold arB dirB lenB at h
  simp only [Bool.and_eq_true] at h
  exact ⟨inb h.1, inb h.2.1, inb h.2.2⟩
set_option maxHeartbeats 2000000 in
theorem spec_pu (a c s m d n t : Int) (w : World) : Calls Try.prog 31 #[leV a c s m, .int .i64 d, .int .i64 n, .int .i64 t] w (IAt (puV a c s m d n t) (puC a c s m d n t) w) := by
  have BX := Lib.hid (Bx.of w (leO a c s m))
  have CO := Lib.hid (fun w => ok_any a c s m w)
  have CD := Lib.hid (fun w => dir_any d w)
  have CL := Lib.hid (fun w => len_any n w)
  have CT := Lib.hid (fun w => len_any t w)
  have HA : Hid (arB d n t = (dirB d && (lenB n && lenB t))) := Lib.hid rfl
  have CS := Lib.hid (fun (h1 : leB a c s m = true) (h2 : arB d n t = true) (k : Nat) (hk : k < 1001) w => stretch_any a c s m d (k : Int) (le_in h1).1 (le_in h1).2.1 (ar_in h2).1 (by omega) w)
  have SI := Lib.hid (fun (h1 : leB a c s m = true) (h2 : arB d n t = true) (k : Nat) (hk : k < 1001) => st_in (a := a) (c := c) (d := d) (f := (k : Int)) (le_in h1).1 (le_in h1).2.1 (ar_in h2).1 (by omega))
  have MI := Lib.hid (fun (h1 : leB a c s m = true) => (le_in h1).2.2.2)
  have AI := Lib.hid (fun (h1 : arB d n t = true) => (ar_in h1).2)
  have V0 : Hid (leB a c s m = false → puC a c s m d n t = 1 ∧ puV a c s m d n t = 0) := Lib.hid fun h => by
    have e : puC a c s m d n t = 1 := if_pos h
    exact ⟨e, by unfold puV; rw [e]; rfl⟩
  have V1 : Hid (leB a c s m = true → arB d n t = false → puC a c s m d n t = 2 ∧ puV a c s m d n t = 0) := Lib.hid fun h h1 => by
    have e : puC a c s m d n t = 2 := by unfold puC; simp [h, h1]
    exact ⟨e, by unfold puV; rw [e]; rfl⟩
  have V2 : Hid (leB a c s m = true → arB d n t = true → (∀ j : Nat, j < 1001 → n * (40000 + st a c d (j : Int)) < 40000 * t) → puC a c s m d n t = 3 ∧ puV a c s m d n t = 0) := Lib.hid fun h h1 h2 => by
    have hk : puK a c d n t = 1001 := by
      unfold puK
      rw [fi_none fun j _ hj => ?_]
      simpa [hitB] using h2 j (by omega)
    have e : puC a c s m d n t = 3 := by unfold puC; simp [h, h1, hk]
    exact ⟨e, by unfold puV; rw [e]; rfl⟩
  have HK : Hid (∀ k : Nat, k < 1001 → (∀ j : Nat, j < k → n * (40000 + st a c d (j : Int)) < 40000 * t) → 40000 * t ≤ n * (40000 + st a c d (k : Int)) → puK a c d n t = k) := Lib.hid fun k hk h2 h3 => fi_hit (by unfold hitB; exact decide_eq_true h3) (Nat.zero_le _) (by omega) fun j _ hj => by simpa [hitB] using h2 j hj
  have V3 : Hid (leB a c s m = true → arB d n t = true → ∀ k : Nat, k < 1001 → (∀ j : Nat, j < k → n * (40000 + st a c d (j : Int)) < 40000 * t) → 40000 * t ≤ n * (40000 + st a c d (k : Int)) → (40 * m < st a c d (k : Int) → puC a c s m d n t = 10 ∧ puV a c s m d n t = 0) ∧ (¬ 40 * m < st a c d (k : Int) → puC a c s m d n t = 0 ∧ puV a c s m d n t = (k : Int))) := Lib.hid fun h h1 k hk h2 h3 => by
    have e := HK.out k hk h2 h3
    have hne : ¬ k = 1001 := by omega
    refine ⟨fun h4 => ?_, fun h4 => ?_⟩
    · have e1 : puC a c s m d n t = 10 := by unfold puC; simp [h, h1, e, hne, h4]
      exact ⟨e1, by unfold puV; rw [e1]; rfl⟩
    · have e1 : puC a c s m d n t = 0 := by unfold puC; simp [h, h1, e, hne, h4]
      exact ⟨e1, by unfold puV; rw [if_pos e1, e]⟩
  clear HK
  unfold IAt
  generalize puC a c s m d n t = rc at V0 V1 V2 V3 ⊢
  generalize puV a c s m d n t = rv at V0 V1 V2 V3 ⊢
  generalize leB a c s m = ok at CO CS SI MI V0 V1 V2 V3
  generalize arB d n t = ab at CS SI AI V1 V2 V3 HA
  generalize dirB d = k1 at CD HA
  generalize lenB n = k2 at CL HA
  generalize lenB t = k3 at CT HA
  obtain ⟨X, hX⟩ : ∃ X : Nat → Int, ∀ k : Nat, st a c d (k : Int) = X k := ⟨_, fun _ => rfl⟩
  simp only [hX] at CS SI V2 V3
  clear hX
  go_enter Try.func31, Try.ntmps31
  go_upto_region 1 with fail
  generalize hw9 : World.alloc _ _ = w0 at BX ⊢
  clear hw9
  obtain ⟨z0, z1, z2, z3⟩ := blk4 BX.out.box
  go_wp2_with fail
  refine (CO.out _).mono ?_
  rintro e w1 ⟨rfl, b1⟩
  have BX1 := Lib.hid (BX.out.below b1)
  clear b1 BX CO z0 z1 z2 z3
  cases ok
  · obtain ⟨r1, r2⟩ := V0.out rfl
    have R1 := Lib.hid r1
    have R2 := Lib.hid r2
    clear V0 V1 V2 V3 CS SI MI AI r1 r2
    go_wp2_with fail
    exact bodyPost_ret (v := .tuple #[.int .i64 0, .int .i64 1]) (by simp [results, Try.results31, go_sem]) rfl ⟨by rw [R1.out, R2.out], BX1.out.bel⟩
  have W1 := Lib.hid (V1.out rfl)
  have W2 := Lib.hid (V2.out rfl)
  have W3 := Lib.hid (V3.out rfl)
  have hm := MI.out rfl
  have CS1 := Lib.hid (CS.out rfl)
  have SI1 := Lib.hid (SI.out rfl)
  clear V0 V1 V2 V3 CS SI MI
  cases k1 <;> cases k2 <;> cases k3
  case true.true.true =>
    have ha : ab = true := HA.out
    subst ha
    have U2 := Lib.hid (W2.out rfl)
    have U3 := Lib.hid (W3.out rfl)
    obtain ⟨hn, ht⟩ := AI.out rfl
    have CS2 := Lib.hid (CS1.out rfl)
    have SI2 := Lib.hid (SI1.out rfl)
    clear W1 W2 W3 AI CS1 SI1 HA
    go_wp2_with (first | (go_at_call 59; refine (CD.out _).mono ?_; rintro e w' ⟨rfl, rfl⟩) | (go_at_call_of 60 n; refine (CL.out _).mono ?_; rintro e w' ⟨rfl, rfl⟩) | (go_at_call_of 60 t; refine (CT.out _).mono ?_; rintro e w' ⟨rfl, rfl⟩))
    go_loopw [10, 11] (fun u _ wr => ∃ k : Nat, k ≤ 1001 ∧ u = .int .i64 (k : Int) ∧ Hid (Bx w wr (leO a c s m)) ∧ Hid (∀ j, j < k → n * (40000 + X j) < 40000 * t)) (fun u _ _ => 1001 - (intOf u).toNat)
    case atStart => exact ⟨0, Nat.zero_le _, rfl, BX1, Lib.hid fun j hj => by omega⟩
    case round =>
      obtain ⟨k, hk, rfl, HB, HN⟩ := hrel
      have f0 : (0 : Int) ≤ (k : Int) := Int.natCast_nonneg _
      by_cases hlt : k < 1001
      · have f1 : (k : Int) ≤ 1000 := by omega
        have hx := SI2.out k hlt
        have CK := Lib.hid (CS2.out k hlt)
        have U3k := Lib.hid (U3.out k hlt HN.out)
        have HS : Hid (n * (40000 + X k) < 40000 * t → ∀ j, j < k + 1 → n * (40000 + X j) < 40000 * t) := Lib.hid fun h j hj => by
          by_cases e : j = k
          · subst e; exact h
          · exact HN.out j (by omega)
        have hk1 : k + 1 ≤ 1001 := by omega
        generalize X k = x at hx CK U3k HS
        have y1 := prod_le (show 0 ≤ n ∧ n ≤ 10000 by omega) (show 0 ≤ 40000 + x ∧ 40000 + x ≤ 840000 by omega)
        have t1 : IntKind.i64.wrap (n * (40000 + x)) = n * (40000 + x) := IntWalk.i64_in _ (by omega)
        obtain ⟨z0, z1, z2, z3⟩ := blk4 HB.out.box
        clear CS2 SI2 U2 U3 HN
        go_wp2_with fail
        refine (CK.out _).mono ?_
        rintro e w2 ⟨rfl, b2⟩
        have HB2 := Lib.hid (HB.out.below b2)
        clear b2 HB CK z0 z1 z2 z3
        by_cases hh : 40000 * t ≤ n * (40000 + x)
        · obtain ⟨r1, r2⟩ := U3k.out hh
          have R1 := Lib.hid r1
          have R2 := Lib.hid r2
          obtain ⟨z0, z1, z2, z3⟩ := blk4 HB2.out.box
          clear U3k HS r1 r2
          by_cases hx4 : 40 * m < x
          · obtain ⟨q1, q2⟩ := R1.out hx4
            have Q1 := Lib.hid q1
            have Q2 := Lib.hid q2
            clear R1 R2 q1 q2
            go_wp2_with fail
            exact bodyPost_ret (v := .tuple #[.int .i64 0, .int .i64 10]) (by simp [results, Try.results31, go_sem]) rfl ⟨by rw [Q1.out, Q2.out], HB2.out.bel⟩
          · obtain ⟨q1, q2⟩ := R2.out (by omega)
            have Q1 := Lib.hid q1
            have Q2 := Lib.hid q2
            clear R1 R2 q1 q2
            go_wp2_with fail
            exact bodyPost_ret (v := .tuple #[.int .i64 (k : Int), .int .i64 0]) (by simp [results, Try.results31, go_sem]) rfl ⟨by rw [Q1.out, Q2.out], HB2.out.bel⟩
        · have HS1 := Lib.hid (HS.out (by omega))
          clear U3k HS
          go_wp2_with fail
          go_roundw
          case rel => exact ⟨k + 1, hk1, by go_num, HB2, HS1⟩
          case measure => simp [intOf]; omega
      · obtain rfl : k = 1001 := by omega
        obtain ⟨r1, r2⟩ := U2.out HN.out
        have R1 := Lib.hid r1
        have R2 := Lib.hid r2
        clear U2 U3 CS2 SI2 HN r1 r2
        go_wp2_with fail
        exact bodyPost_ret (v := .tuple #[.int .i64 0, .int .i64 3]) (by simp [results, Try.results31, go_sem]) rfl ⟨by rw [R1.out, R2.out], HB.out.bel⟩
  all_goals
    have ha : ab = false := HA.out
    subst ha
    obtain ⟨r1, r2⟩ := W1.out rfl
    have R1 := Lib.hid r1
    have R2 := Lib.hid r2
    clear W1 W2 W3 AI CS1 SI1 HA r1 r2
    go_wp2_with (first | (go_at_call 59; refine (CD.out _).mono ?_; rintro e w' ⟨rfl, rfl⟩) | (go_at_call_of 60 n; refine (CL.out _).mono ?_; rintro e w' ⟨rfl, rfl⟩) | (go_at_call_of 60 t; refine (CT.out _).mono ?_; rintro e w' ⟨rfl, rfl⟩))
    exact bodyPost_ret (v := .tuple #[.int .i64 0, .int .i64 2]) (by simp [results, Try.results31, go_sem]) rfl ⟨by rw [R1.out, R2.out], BX1.out.bel⟩
end Go.Proofs.Ytgclhkiiaclkgaa.Jc
