/- Leathers: the program's MatchDirections. -/
import Derived.Test.YtgclhkiiaclkgaaP4Lib
import Derived.Test.YtgclhkiiaclkgaaJeLib
namespace Go.Proofs.Ytgclhkiiaclkgaa.P8
set_option linter.unusedVariables false
open Go.RowKit Is Ge Qb Ja Jb Jc Jd Je P1 P2 P3 P4
open Go.Proofs.Ytgclhkiiaclkgaa.Ba (inB below_then below_box blk1 blk2)

theorem idist (a b : Int) (ha : 0 ≤ a ∧ a ≤ 10000) (hb : 0 ≤ b ∧ b ≤ 10000) (w : World) : Calls Try.prog 73 #[.int .i64 a, .int .i64 b] w fun e w' => e = .returned (.int .i64 (Nh.ab (a - b))) ∧ Below w.heap.size w w' := by
  by_cases h : a < b
  · have HE : Hid (Nh.ab (a - b) = b - a) := Lib.hid (by unfold Nh.ab; split <;> omega)
    by_cases h2 : b < a
    · omega
    · go_enter Try.func73, Try.ntmps73
      go_wp2_with fail
      all_goals (try go_region)
      all_goals (try go_wp2_with fail)
      all_goals
        go_ret
        exact ⟨Ba.ret_int (by rw [HE.out]), by repeat (first | exact Below.refl _ _ | refine Below.drew ?_ | refine Below.drewN ?_ _)⟩
  · have HE : Hid (Nh.ab (a - b) = a - b) := Lib.hid (by unfold Nh.ab; split <;> omega)
    by_cases h2 : b < a
    · go_enter Try.func73, Try.ntmps73
      go_wp2_with fail
      all_goals (try go_region)
      all_goals (try go_wp2_with fail)
      all_goals
        go_ret
        exact ⟨Ba.ret_int (by rw [HE.out]), by repeat (first | exact Below.refl _ _ | refine Below.drew ?_ | refine Below.drewN ?_ _)⟩
    · obtain rfl : a = b := by omega
      have HZ : Hid (Nh.ab (a - a) = 0) := Lib.hid (by rw [HE.out]; omega)
      rw [HZ.out]
      go_enter Try.func73, Try.ntmps73
      go_wp2_with fail
      go_ret
      exact ⟨rfl, Below.refl _ _⟩
/-- The best of the first t pairs of directions, beginning with the first one. -/
def mdN (D : Nat → Nat → Int) : Nat → Int × Int × Int
  | 0 => (0, 0, D 0 0)
  | t + 1 => if D (t / 5) (t % 5) < (mdN D t).2.2 then (((t / 5 : Nat) : Int), ((t % 5 : Nat) : Int), D (t / 5) (t % 5)) else mdN D t
theorem mds_pos {D : Nat → Nat → Int} (h : ∀ i k, 0 ≤ D i k) : ∀ t, 0 ≤ (mdS D (t + 1)).2.2
  | 0 => by
    show 0 ≤ (if (mdS D 0).2.2 < 0 ∨ _ then _ else _ : Int × Int × Int).2.2
    rw [if_pos (.inl (by show (-1 : Int) < 0; omega))]
    exact h _ _
  | t + 1 => by
    have ih := mds_pos h t
    show 0 ≤ (if (mdS D (t + 1)).2.2 < 0 ∨ _ then _ else _ : Int × Int × Int).2.2
    split
    · exact h _ _
    · exact ih
theorem mdn_mds {D : Nat → Nat → Int} (h : ∀ i k, 0 ≤ D i k) : ∀ t, mdN D (t + 1) = mdS D (t + 1)
  | 0 => by
    show (if D (0 / 5) (0 % 5) < D 0 0 then _ else _ : Int × Int × Int) = (if (mdS D 0).2.2 < 0 ∨ _ then _ else _)
    rw [if_neg (Int.lt_irrefl _), if_pos (.inl (by show (-1 : Int) < 0; omega))]
    rfl
  | t + 1 => by
    have ih := mdn_mds h t
    have hp := mds_pos h t
    show (if D ((t + 1) / 5) ((t + 1) % 5) < (mdN D (t + 1)).2.2 then _ else _ : Int × Int × Int) = (if (mdS D (t + 1)).2.2 < 0 ∨ D ((t + 1) / 5) ((t + 1) % 5) < (mdS D (t + 1)).2.2 then _ else _)
    rw [ih]
    by_cases c : D ((t + 1) / 5) ((t + 1) % 5) < (mdS D (t + 1)).2.2
    · rw [if_pos c, if_pos (.inr c)]
    · rw [if_neg c, if_neg (by omega)]
theorem mdn_yes {D : Nat → Nat → Int} {i k : Nat} (hk : k < 5) (h : D i k < (mdN D (5 * i + k)).2.2) : mdN D (5 * i + (k + 1)) = ((i : Int), (k : Int), D i k) := by
  have e1 : (5 * i + k) / 5 = i := by omega
  have e2 : (5 * i + k) % 5 = k := by omega
  show mdN D ((5 * i + k) + 1) = _
  rw [mdN, e1, e2, if_pos h]
theorem mdn_no {D : Nat → Nat → Int} {i k : Nat} (hk : k < 5) (h : ¬ D i k < (mdN D (5 * i + k)).2.2) : mdN D (5 * i + (k + 1)) = mdN D (5 * i + k) := by
  have e1 : (5 * i + k) / 5 = i := by omega
  have e2 : (5 * i + k) % 5 = k := by omega
  show mdN D ((5 * i + k) + 1) = _
  rw [mdN, e1, e2, if_neg h]
theorem dd_pos (a c a' c' : Int) (i k : Nat) : 0 ≤ dd a c a' c' i k := by unfold dd Nh.ab; split <;> omega
set_option maxHeartbeats 4000000 in
theorem impl_ma (a c s m a' c' s' m' : Int) (w : World) : Calls Try.prog 40 #[leV a c s m, leV a' c' s' m'] w (I3At (maX a c s m a' c' s' m') (maY a c s m a' c' s' m') (maC a c s m a' c' s' m') w) := by
  have BX := Lib.hid (Bx2.of w (leO a c s m) (leO a' c' s' m'))
  have CO := Lib.hid (fun w => ivalid a c s m w)
  have CO' := Lib.hid (fun w => ivalid a' c' s' m' w)
  have CG := Lib.hid (fun (h1 : leB a c s m = true) (k : Nat) (hk : k < 5) w => igives a c s m (k : Int) (le_in h1).1 (le_in h1).2.1 (by omega) w)
  have CG' := Lib.hid (fun (h1 : leB a' c' s' m' = true) (k : Nat) (hk : k < 5) w => igives a' c' s' m' (k : Int) (le_in h1).1 (le_in h1).2.1 (by omega) w)
  have DS : Hid (leB a c s m = true → leB a' c' s' m' = true → ∀ i k : Nat, i < 5 → k < 5 → ∀ w, Calls Try.prog 73 #[.int .i64 (gv a c (i : Int)), .int .i64 (gv a' c' (k : Int))] w fun e w' => e = .returned (.int .i64 (dd a c a' c' i k)) ∧ Below w.heap.size w w') := Lib.hid fun h1 h2 i k hi hk w => by
    have g1 := gv_in (a := a) (c := c) (d := (i : Int)) (le_in h1).1 (le_in h1).2.1 (by omega)
    have g2 := gv_in (a := a') (c := c') (d := (k : Int)) (le_in h2).1 (le_in h2).2.1 (by omega)
    exact idist _ _ (by omega) (by omega) w
  have V0 : Hid ((leB a c s m && leB a' c' s' m') = false → maC a c s m a' c' s' m' = 1 ∧ maX a c s m a' c' s' m' = 0 ∧ maY a c s m a' c' s' m' = 0) := Lib.hid fun h => by
    have e : maC a c s m a' c' s' m' = 1 := if_pos h
    exact ⟨e, by unfold maX; rw [e]; rfl, by unfold maY; rw [e]; rfl⟩
  have V1 : Hid ((leB a c s m && leB a' c' s' m') = true → maC a c s m a' c' s' m' = 0 ∧ maX a c s m a' c' s' m' = (mdN (dd a c a' c') 25).1 ∧ maY a c s m a' c' s' m' = (mdN (dd a c a' c') 25).2.1) := Lib.hid fun h => by
    have e : maC a c s m a' c' s' m' = 0 := if_neg (by rw [h]; simp)
    rw [mdn_mds (dd_pos a c a' c') 24]
    exact ⟨e, by unfold maX; rw [if_pos e], by unfold maY; rw [if_pos e]⟩
  have M0 : Hid (mdN (dd a c a' c') 0 = (0, 0, dd a c a' c' 0 0)) := Lib.hid rfl
  have MY := Lib.hid (fun (i k : Nat) (hk : k < 5) h => mdn_yes (D := dd a c a' c') (i := i) hk h)
  have MN := Lib.hid (fun (i k : Nat) (hk : k < 5) h => mdn_no (D := dd a c a' c') (i := i) hk h)
  unfold I3At
  generalize maC a c s m a' c' s' m' = rc at V0 V1 ⊢
  generalize maX a c s m a' c' s' m' = rx at V0 V1 ⊢
  generalize maY a c s m a' c' s' m' = ry at V0 V1 ⊢
  generalize dd a c a' c' = D at V1 M0 MY MN DS
  generalize mdN D = M at V1 M0 MY MN
  obtain ⟨G, hG⟩ : ∃ G : Nat → Int, ∀ k : Nat, gv a c (k : Int) = G k := ⟨_, fun _ => rfl⟩
  obtain ⟨G', hG'⟩ : ∃ G' : Nat → Int, ∀ k : Nat, gv a' c' (k : Int) = G' k := ⟨_, fun _ => rfl⟩
  simp only [hG, hG'] at CG CG' DS
  clear hG hG'
  generalize leB a c s m = k1 at CO CG DS V0 V1
  generalize leB a' c' s' m' = k2 at CO' CG' DS V0 V1
  go_enter Try.func40, Try.ntmps40
  go_upto_region 1 with fail
  generalize hw9 : World.alloc _ _ = w0 at BX ⊢
  clear hw9
  obtain ⟨z0, z1, z2, z3⟩ := Ba.blk4 BX.out.box
  cases k1
  · obtain ⟨r1, r2, r3⟩ := V0.out rfl
    have R1 := Lib.hid r1
    have R2 := Lib.hid r2
    have R3 := Lib.hid r3
    clear V0 V1 CG CG' M0 MY MN DS r1 r2 r3 CO'
    go_wp2_with fail
    refine (CO.out _).mono ?_
    rintro e w1 ⟨rfl, b1⟩
    have BX1 := Lib.hid (BX.out.below b1)
    clear b1 BX CO z0 z1 z2 z3
    go_wp2_with fail
    exact bodyPost_ret (v := .tuple #[.int .i64 0, .int .i64 0, .int .i64 1]) (by simp [results, Try.results40, go_sem]) rfl ⟨by rw [R1.out, R2.out, R3.out], BX1.out.bel⟩
  go_wp2_with fail
  refine (CO.out _).mono ?_
  rintro e w1 ⟨rfl, b1⟩
  have BX1 := Lib.hid (BX.out.below b1)
  clear b1 BX CO z0 z1 z2 z3
  obtain ⟨z0, z1, z2, z3⟩ := Ba.blk4 BX1.out.frc
  cases k2
  · obtain ⟨r1, r2, r3⟩ := V0.out rfl
    have R1 := Lib.hid r1
    have R2 := Lib.hid r2
    have R3 := Lib.hid r3
    clear V0 V1 CG CG' M0 MY MN DS r1 r2 r3
    go_wp2_with fail
    refine (CO'.out _).mono ?_
    rintro e w2 ⟨rfl, b2⟩
    have BX2 := Lib.hid (BX1.out.below b2)
    clear b2 BX1 CO' z0 z1 z2 z3
    go_wp2_with fail
    exact bodyPost_ret (v := .tuple #[.int .i64 0, .int .i64 0, .int .i64 1]) (by simp [results, Try.results40, go_sem]) rfl ⟨by rw [R1.out, R2.out, R3.out], BX2.out.bel⟩
  have X1 := Lib.hid (V1.out (by first | rfl | trivial))
  have CI := Lib.hid (CG.out (by first | rfl | trivial))
  have CI' := Lib.hid (CG'.out (by first | rfl | trivial))
  have DI := Lib.hid (DS.out (by first | rfl | trivial) (by first | rfl | trivial))
  clear V0 V1 CG CG' DS
  go_wp2_with fail
  refine (CO'.out _).mono ?_
  rintro e w2 ⟨rfl, b2⟩
  have BX2 := Lib.hid (BX1.out.below b2)
  clear b2 BX1 CO' z0 z1 z2 z3
  have C00 := Lib.hid (fun p : Beyond w2 => CI.out 0 (by omega) p.to)
  have C01 := Lib.hid (fun p : Beyond w2 => CI'.out 0 (by omega) p.to)
  have D00 := Lib.hid (fun p : Beyond w2 => DI.out 0 0 (by omega) (by omega) p.to)
  obtain ⟨z0, z1, z2, z3⟩ := Ba.blk4 BX2.out.box
  obtain ⟨y0, y1, y2, y3⟩ := Ba.blk4 BX2.out.frc
  have z0' := bey_cell z0
  have z1' := bey_cell z1
  have z2' := bey_cell z2
  have z3' := bey_cell z3
  have y0' := bey_cell y0
  have y1' := bey_cell y1
  have y2' := bey_cell y2
  have y3' := bey_cell y3
  clear z0 z1 z2 z3 y0 y1 y2 y3
  simp only [Int.ofNat_zero] at C00 C01
  generalize hD0 : D 0 0 = d0 at D00 M0
  clear hD0
  generalize G 0 = gx at C00 D00
  generalize G' 0 = gy at C01 D00
  go_upto_region 4 with fail
  refine wp_region_below (by kernel_rfl) (by kernel_rfl) ?_
  repeat (go_big_quiet_step (first | (go_at_call_of 74 m; with_reducible exact bey_of _ (C00.out _)) | (go_at_call_of 74 m'; with_reducible exact bey_of _ (C01.out _)) | (go_at_call 73; with_reducible exact bey_of _ (D00.out _))))
  refine wpQuiet_nil ?_
  rintro _ ⟨pq, rfl⟩
  have HQ := Lib.hid (BX2.out.below pq.h)
  generalize pq.to = w3 at HQ ⊢
  clear z0' z1' z2' z3' y0' y1' y2' y3' C00 C01 D00 BX2
  go_wp2_with fail
  go_loopw [7, 8, 9, 10, 11, 12, 28] (fun x y le _ _ _ i wr => ∃ j : Nat, j ≤ 5 ∧ x = .int .i64 (M (5 * j)).1 ∧ y = .int .i64 (M (5 * j)).2.1 ∧ le = .int .i64 (M (5 * j)).2.2 ∧ i = .int .i64 (j : Int) ∧ Hid (Bx2 w wr (leO a c s m) (leO a' c' s' m'))) (fun _ _ _ _ _ _ i _ => 5 - (intOf i).toNat)
  case atStart => exact ⟨0, Nat.zero_le _, by rw [Nat.mul_zero, M0.out], by rw [Nat.mul_zero, M0.out], by rw [Nat.mul_zero, M0.out], rfl, HQ⟩
  case round =>
    obtain ⟨j, hj, rfl, rfl, rfl, rfl, HB⟩ := hrel
    have f0 : (0 : Int) ≤ (j : Int) := Int.natCast_nonneg _
    by_cases hlt : j < 5
    · have f1 : (j : Int) ≤ 4 := by omega
      have CJ := Lib.hid (CI.out j hlt)
      have DJ := Lib.hid (fun k hk w => DI.out j k hlt hk w)
      have MJ := Lib.hid (fun k hk h => MY.out j k hk h)
      have MM := Lib.hid (fun k hk h => MN.out j k hk h)
      have hj1 : j + 1 ≤ 5 := by omega
      have M5 : Hid (M (5 * (j + 1)) = M (5 * j + 5)) := Lib.hid rfl
      clear CI DI MY MN X1 M0
      go_wp2_with fail
      rename World => wo
      go_loopw [7, 8, 9, 11, 12, 31] (fun x y le _ _ u wr => ∃ k : Nat, k ≤ 5 ∧ x = .int .i64 (M (5 * j + k)).1 ∧ y = .int .i64 (M (5 * j + k)).2.1 ∧ le = .int .i64 (M (5 * j + k)).2.2 ∧ u = .int .i64 (k : Int) ∧ Hid (Bx2 w wr (leO a c s m) (leO a' c' s' m'))) (fun _ _ _ _ _ u _ => 5 - (intOf u).toNat)
      case atStart => exact ⟨0, Nat.zero_le _, rfl, rfl, rfl, rfl, HB⟩
      case round =>
        obtain ⟨k, hk, rfl, rfl, rfl, rfl, HV⟩ := hrel
        have g0 : (0 : Int) ≤ (k : Int) := Int.natCast_nonneg _
        by_cases hkl : k < 5
        · have g1 : (k : Int) ≤ 4 := by omega
          have C0 := Lib.hid (fun p : Beyond wr => CJ.out p.to)
          have C1 := Lib.hid (fun p : Beyond wr => CI'.out k hkl p.to)
          have D1 := Lib.hid (fun p : Beyond wr => DJ.out k hkl p.to)
          have S1 := Lib.hid (MJ.out k hkl)
          have S2 := Lib.hid (MM.out k hkl)
          have hk1 : k + 1 ≤ 5 := by omega
          obtain ⟨z0, z1, z2, z3⟩ := Ba.blk4 HV.out.box
          obtain ⟨y0, y1, y2, y3⟩ := Ba.blk4 HV.out.frc
          have z0' := bey_cell z0
          have z1' := bey_cell z1
          have z2' := bey_cell z2
          have z3' := bey_cell z3
          have y0' := bey_cell y0
          have y1' := bey_cell y1
          have y2' := bey_cell y2
          have y3' := bey_cell y3
          clear CI' DJ MJ MM M5 z0 z1 z2 z3 y0 y1 y2 y3 HB CJ
          generalize hMk : M (5 * j + k) = mk at S1 S2 ⊢
          generalize hMk1 : M (5 * j + (k + 1)) = mk1 at S1 S2 ⊢
          generalize D j k = x at D1 S1 S2
          obtain ⟨m1, m2, m3⟩ := mk
          simp only at S1 S2 ⊢
          generalize G j = gx at *
          generalize G' k = gy at *
          go_upto_region 11 with fail
          refine wp_region_below (by kernel_rfl) (by kernel_rfl) ?_
          repeat (go_big_quiet_step (first | (go_at_call_of 74 m; with_reducible exact bey_of _ (C0.out _)) | (go_at_call_of 74 m'; with_reducible exact bey_of _ (C1.out _)) | (go_at_call 73; with_reducible exact bey_of _ (D1.out _))))
          refine wpQuiet_nil ?_
          rintro _ ⟨pq, rfl⟩
          have HQ := Lib.hid (HV.out.below pq.h)
          generalize pq.to = wq at HQ ⊢
          clear z0' z1' z2' z3' y0' y1' y2' y3' C0 C1 D1 HV
          by_cases h2 : x < m3
          · have HE := Lib.hid (S1.out h2)
            clear S1 S2
            go_wp2_with fail
            go_roundw
            case rel => exact ⟨k + 1, hk1, by rw [hMk1, HE.out], by rw [hMk1, HE.out], by rw [hMk1, HE.out], by go_num, HQ⟩
            case measure => simp [intOf]; omega
          · have HE := Lib.hid (S2.out (by omega))
            clear S1 S2
            go_wp2_with fail
            go_roundw
            case rel => exact ⟨k + 1, hk1, by rw [hMk1, HE.out], by rw [hMk1, HE.out], by rw [hMk1, HE.out], by go_num, HQ⟩
            case measure => simp [intOf]; omega
        · obtain rfl : k = 5 := by omega
          clear CI' DJ MJ MM HB CJ
          generalize hmk : M (5 * j + 5) = mk
          go_wp2_with fail
          go_roundw
          case rel => exact ⟨j + 1, hj1, by rw [M5.out, hmk], by rw [M5.out, hmk], by rw [M5.out, hmk], by go_num, HV⟩
          case measure => simp [intOf]; omega
    · obtain rfl : j = 5 := by omega
      obtain ⟨r1, r2, r3⟩ := X1.out
      have R1 := Lib.hid r1
      have R2 := Lib.hid r2
      have R3 := Lib.hid r3
      clear CI CI' DI MY MN X1 M0 r1 r2 r3
      go_wp2_with fail
      exact bodyPost_ret (v := .tuple #[.int .i64 (M 25).1, .int .i64 (M 25).2.1, .int .i64 0]) (by simp [results, Try.results40, go_sem]) rfl ⟨by rw [R1.out, R2.out, R3.out], HB.out.bel⟩
end Go.Proofs.Ytgclhkiiaclkgaa.P8
