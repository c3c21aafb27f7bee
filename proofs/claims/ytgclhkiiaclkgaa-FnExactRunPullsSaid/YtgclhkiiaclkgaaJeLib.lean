/- Leathers: the spec's MatchDirections. -/
import Derived.Test.YtgclhkiiaclkgaaJdLib
namespace Go.Proofs.Ytgclhkiiaclkgaa.Je
set_option linter.unusedVariables false
open Go.RowKit Qb Ja Jb
open Go.Proofs.Ytgclhkiiaclkgaa.Ba (inB below_then below_box blk_keep blk2 blk4 blk_free ret_bool ret_int)

/-- The best of the first t pairs of directions, and their difference; -1 if there is none. -/
def mdS (D : Nat → Nat → Int) : Nat → Int × Int × Int
  | 0 => (0, 0, -1)
  | t + 1 => if (mdS D t).2.2 < 0 ∨ D (t / 5) (t % 5) < (mdS D t).2.2 then (((t / 5 : Nat) : Int), ((t % 5 : Nat) : Int), D (t / 5) (t % 5)) else mdS D t
theorem mds_yes {D : Nat → Nat → Int} {i k : Nat} (hk : k < 5) (h : (mdS D (5 * i + k)).2.2 < 0 ∨ D i k < (mdS D (5 * i + k)).2.2) : mdS D (5 * i + (k + 1)) = ((i : Int), (k : Int), D i k) := by
  have e1 : (5 * i + k) / 5 = i := by omega
  have e2 : (5 * i + k) % 5 = k := by omega
  show mdS D ((5 * i + k) + 1) = _
  rw [mdS, e1, e2, if_pos h]
theorem mds_no {D : Nat → Nat → Int} {i k : Nat} (hk : k < 5) (h : ¬ ((mdS D (5 * i + k)).2.2 < 0 ∨ D i k < (mdS D (5 * i + k)).2.2)) : mdS D (5 * i + (k + 1)) = mdS D (5 * i + k) := by
  have e1 : (5 * i + k) / 5 = i := by omega
  have e2 : (5 * i + k) % 5 = k := by omega
  show mdS D ((5 * i + k) + 1) = _
  rw [mdS, e1, e2, if_neg h]
def dd (a c a' c' : Int) (i k : Nat) : Int := Nh.ab (gv a c (i : Int) - gv a' c' (k : Int))
def maC (a c s m a' c' s' m' : Int) : Int := if (leB a c s m && leB a' c' s' m') = false then 1 else 0
def maX (a c s m a' c' s' m' : Int) : Int := if maC a c s m a' c' s' m' = 0 then (mdS (dd a c a' c') 25).1 else 0
def maY (a c s m a' c' s' m' : Int) : Int := if maC a c s m a' c' s' m' = 0 then (mdS (dd a c a' c') 25).2.1 else 0
def I3At (x y C : Int) (w : World) (e : Ending) (w' : World) : Prop := e = .returned (.tuple #[.int .i64 x, .int .i64 y, .int .i64 C]) ∧ Below w.heap.size w w'
set_option maxHeartbeats 2000000 in
theorem spec_ma (a c s m a' c' s' m' : Int) (w : World) : Calls Try.prog 39 #[leV a c s m, leV a' c' s' m'] w (I3At (maX a c s m a' c' s' m') (maY a c s m a' c' s' m') (maC a c s m a' c' s' m') w) := by
  have BX := Lib.hid (Bx2.of w (leO a c s m) (leO a' c' s' m'))
  have CO := Lib.hid (fun w => ok_any a c s m w)
  have CO' := Lib.hid (fun w => ok_any a' c' s' m' w)
  have CG := Lib.hid (fun (h1 : leB a c s m = true) (k : Nat) (hk : k < 5) w => give_any a c s m (k : Int) (le_in h1).1 (le_in h1).2.1 (by omega) w)
  have CG' := Lib.hid (fun (h1 : leB a' c' s' m' = true) (k : Nat) (hk : k < 5) w => give_any a' c' s' m' (k : Int) (le_in h1).1 (le_in h1).2.1 (by omega) w)
  have GI := Lib.hid (fun (h1 : leB a c s m = true) (k : Nat) (hk : k < 5) => gv_in (a := a) (c := c) (d := (k : Int)) (le_in h1).1 (le_in h1).2.1 (by omega))
  have GI' := Lib.hid (fun (h1 : leB a' c' s' m' = true) (k : Nat) (hk : k < 5) => gv_in (a := a') (c := c') (d := (k : Int)) (le_in h1).1 (le_in h1).2.1 (by omega))
  have V0 : Hid ((leB a c s m && leB a' c' s' m') = false → maC a c s m a' c' s' m' = 1 ∧ maX a c s m a' c' s' m' = 0 ∧ maY a c s m a' c' s' m' = 0) := Lib.hid fun h => by
    have e : maC a c s m a' c' s' m' = 1 := if_pos h
    exact ⟨e, by unfold maX; rw [e]; rfl, by unfold maY; rw [e]; rfl⟩
  have V1 : Hid ((leB a c s m && leB a' c' s' m') = true → maC a c s m a' c' s' m' = 0 ∧ maX a c s m a' c' s' m' = (mdS (dd a c a' c') 25).1 ∧ maY a c s m a' c' s' m' = (mdS (dd a c a' c') 25).2.1) := Lib.hid fun h => by
    have e : maC a c s m a' c' s' m' = 0 := if_neg (by rw [h]; simp)
    exact ⟨e, by unfold maX; rw [if_pos e], by unfold maY; rw [if_pos e]⟩
  have M0 : Hid (mdS (dd a c a' c') 0 = (0, 0, -1)) := Lib.hid rfl
  have MY := Lib.hid (fun (i k : Nat) (hk : k < 5) h => mds_yes (D := dd a c a' c') (i := i) hk h)
  have MN := Lib.hid (fun (i k : Nat) (hk : k < 5) h => mds_no (D := dd a c a' c') (i := i) hk h)
  have DS : Hid (∀ i k : Nat, (h1 : 0 ≤ gv a c (i : Int) ∧ gv a c (i : Int) ≤ 800) → (h2 : 0 ≤ gv a' c' (k : Int) ∧ gv a' c' (k : Int) ≤ 800) → ∀ w, Calls Try.prog 72 #[.int .i64 (gv a c (i : Int) - gv a' c' (k : Int))] w fun e w' => e = .returned (.int .i64 (dd a c a' c' i k)) ∧ w = w') := Lib.hid fun i k h1 h2 w => Fr.ssize _ (by omega) w
  unfold I3At
  generalize maC a c s m a' c' s' m' = rc at V0 V1 ⊢
  generalize maX a c s m a' c' s' m' = rx at V0 V1 ⊢
  generalize maY a c s m a' c' s' m' = ry at V0 V1 ⊢
  generalize dd a c a' c' = D at V1 M0 MY MN DS
  generalize mdS D = M at V1 M0 MY MN
  obtain ⟨G, hG⟩ : ∃ G : Nat → Int, ∀ k : Nat, gv a c (k : Int) = G k := ⟨_, fun _ => rfl⟩
  obtain ⟨G', hG'⟩ : ∃ G' : Nat → Int, ∀ k : Nat, gv a' c' (k : Int) = G' k := ⟨_, fun _ => rfl⟩
  simp only [hG, hG'] at CG CG' GI GI' DS
  clear hG hG'
  generalize leB a c s m = k1 at CO CG GI V0 V1
  generalize leB a' c' s' m' = k2 at CO' CG' GI' V0 V1
  go_enter Try.func39, Try.ntmps39
  go_upto_region 1 with fail
  generalize hw9 : World.alloc _ _ = w0 at BX ⊢
  clear hw9
  obtain ⟨z0, z1, z2, z3⟩ := blk4 BX.out.box
  go_wp2_with fail
  refine (CO.out _).mono ?_
  rintro e w1 ⟨rfl, b1⟩
  have BX1 := Lib.hid (BX.out.below b1)
  clear b1 BX CO z0 z1 z2 z3
  cases k1
  · obtain ⟨r1, r2, r3⟩ := V0.out rfl
    have R1 := Lib.hid r1
    have R2 := Lib.hid r2
    have R3 := Lib.hid r3
    clear V0 V1 CG CG' GI GI' M0 MY MN DS r1 r2 r3 CO'
    go_wp2_with fail
    exact bodyPost_ret (v := .tuple #[.int .i64 0, .int .i64 0, .int .i64 1]) (by simp [results, Try.results39, go_sem]) rfl ⟨by rw [R1.out, R2.out, R3.out], BX1.out.bel⟩
  obtain ⟨z0, z1, z2, z3⟩ := blk4 BX1.out.frc
  go_wp2_with fail
  refine (CO'.out _).mono ?_
  rintro e w2 ⟨rfl, b2⟩
  have BX2 := Lib.hid (BX1.out.below b2)
  clear b2 BX1 CO' z0 z1 z2 z3
  cases k2
  · obtain ⟨r1, r2, r3⟩ := V0.out rfl
    have R1 := Lib.hid r1
    have R2 := Lib.hid r2
    have R3 := Lib.hid r3
    clear V0 V1 CG CG' GI GI' M0 MY MN DS r1 r2 r3
    go_wp2_with fail
    exact bodyPost_ret (v := .tuple #[.int .i64 0, .int .i64 0, .int .i64 1]) (by simp [results, Try.results39, go_sem]) rfl ⟨by rw [R1.out, R2.out, R3.out], BX2.out.bel⟩
  have X1 := Lib.hid (V1.out (by first | rfl | trivial))
  have CI := Lib.hid (CG.out (by first | rfl | trivial))
  have CI' := Lib.hid (CG'.out (by first | rfl | trivial))
  have JI := Lib.hid (GI.out (by first | rfl | trivial))
  have JI' := Lib.hid (GI'.out (by first | rfl | trivial))
  clear V0 V1 CG CG' GI GI'
  go_wp2_with fail
  go_loopw [7, 8, 9, 10, 11, 12] (fun x y le i _ _ wr => ∃ j : Nat, j ≤ 5 ∧ x = .int .i64 (M (5 * j)).1 ∧ y = .int .i64 (M (5 * j)).2.1 ∧ le = .int .i64 (M (5 * j)).2.2 ∧ i = .int .i64 (j : Int) ∧ Hid (Bx2 w wr (leO a c s m) (leO a' c' s' m'))) (fun _ _ _ i _ _ _ => 5 - (intOf i).toNat)
  case atStart => exact ⟨0, Nat.zero_le _, by rw [Nat.mul_zero, M0.out], by rw [Nat.mul_zero, M0.out], by rw [Nat.mul_zero, M0.out], rfl, BX2⟩
  case round =>
    obtain ⟨j, hj, rfl, rfl, rfl, rfl, HB⟩ := hrel
    have f0 : (0 : Int) ≤ (j : Int) := Int.natCast_nonneg _
    by_cases hlt : j < 5
    · have f1 : (j : Int) ≤ 4 := by omega
      have CJ := Lib.hid (CI.out j hlt)
      have gj := JI.out j hlt
      have DJ := Lib.hid (fun k hk w => DS.out j k (JI.out j hlt) (JI'.out k hk) w)
      have MJ := Lib.hid (fun k hk h => MY.out j k hk h)
      have MM := Lib.hid (fun k hk h => MN.out j k hk h)
      have hj1 : j + 1 ≤ 5 := by omega
      have M5 : Hid (M (5 * (j + 1)) = M (5 * j + 5)) := Lib.hid rfl
      clear CI JI DS MY MN X1 M0
      go_wp2_with fail
      rename World => wo
      go_loopw [7, 8, 9, 11, 12] (fun x y le u _ wr => ∃ k : Nat, k ≤ 5 ∧ x = .int .i64 (M (5 * j + k)).1 ∧ y = .int .i64 (M (5 * j + k)).2.1 ∧ le = .int .i64 (M (5 * j + k)).2.2 ∧ u = .int .i64 (k : Int) ∧ Hid (Bx2 w wr (leO a c s m) (leO a' c' s' m'))) (fun _ _ _ u _ _ => 5 - (intOf u).toNat)
      case atStart => exact ⟨0, Nat.zero_le _, rfl, rfl, rfl, rfl, HB⟩
      case round =>
        obtain ⟨k, hk, rfl, rfl, rfl, rfl, HV⟩ := hrel
        have g0 : (0 : Int) ≤ (k : Int) := Int.natCast_nonneg _
        by_cases hkl : k < 5
        · have g1 : (k : Int) ≤ 4 := by omega
          have gk := JI'.out k hkl
          have D0 := Lib.hid (DJ.out k hkl)
          have C0 := Lib.hid (fun p : Beyond wr => CJ.out p.to)
          have C1 := Lib.hid (fun p : Beyond wr => CI'.out k hkl p.to)
          have D1 := Lib.hid (fun p : Beyond wr => D0.out p.to)
          have S1 := Lib.hid (MJ.out k hkl)
          have S2 := Lib.hid (MM.out k hkl)
          have hk1 : k + 1 ≤ 5 := by omega
          obtain ⟨z0, z1, z2, z3⟩ := blk4 HV.out.box
          obtain ⟨y0, y1, y2, y3⟩ := blk4 HV.out.frc
          have z0' := bey_cell z0
          have z1' := bey_cell z1
          have z2' := bey_cell z2
          have z3' := bey_cell z3
          have y0' := bey_cell y0
          have y1' := bey_cell y1
          have y2' := bey_cell y2
          have y3' := bey_cell y3
          clear CI' JI' DJ MJ MM D0 M5 z0 z1 z2 z3 y0 y1 y2 y3 HB CJ
          generalize hMk : M (5 * j + k) = mk at S1 S2 ⊢
          generalize hMk1 : M (5 * j + (k + 1)) = mk1 at S1 S2 ⊢
          generalize D j k = x at D1 S1 S2
          obtain ⟨m1, m2, m3⟩ := mk
          simp only at S1 S2 ⊢
          generalize G j = gx at *
          generalize G' k = gy at *
          go_upto_region 12 with fail
          refine wp_region_below (by kernel_rfl) (by kernel_rfl) ?_
          repeat (go_big_quiet_step (first | (go_at_call_of 70 m; with_reducible exact bey_of _ (C0.out _)) | (go_at_call_of 70 m'; with_reducible exact bey_of _ (C1.out _)) | (go_at_call 72; with_reducible exact bey_same _ (D1.out _))))
          refine wpQuiet_nil ?_
          rintro _ ⟨pq, rfl⟩
          have HQ := Lib.hid (HV.out.below pq.h)
          generalize pq.to = wq at HQ ⊢
          clear z0' z1' z2' z3' y0' y1' y2' y3' C0 C1 D1 HV
          by_cases h1 : m3 < 0
          · have HE := Lib.hid (S1.out (.inl h1))
            clear S1 S2
            go_wp2_with fail
            go_roundw
            case rel => exact ⟨k + 1, hk1, by rw [hMk1, HE.out], by rw [hMk1, HE.out], by rw [hMk1, HE.out], by go_num, HQ⟩
            case measure => simp [intOf]; omega
          by_cases h2 : x < m3
          · have HE := Lib.hid (S1.out (.inr h2))
            clear S1 S2
            go_wp2_with fail
            go_roundw
            case rel => exact ⟨k + 1, hk1, by rw [hMk1, HE.out], by rw [hMk1, HE.out], by rw [hMk1, HE.out], by go_num, HQ⟩
            case measure => simp [intOf]; omega
          · have HE := Lib.hid (S2.out (fun h => h.elim h1 h2))
            clear S1 S2
            go_wp2_with fail
            go_roundw
            case rel => exact ⟨k + 1, hk1, by rw [hMk1, HE.out], by rw [hMk1, HE.out], by rw [hMk1, HE.out], by go_num, HQ⟩
            case measure => simp [intOf]; omega
        · obtain rfl : k = 5 := by omega
          clear CI' JI' DJ MJ MM HB CJ
          generalize hmk : M (5 * j + 5) = mk
          go_wp2_with fail
          go_roundw
          case rel => exact ⟨j + 1, hj1, by rw [M5.out, hmk], by rw [M5.out, hmk], by rw [M5.out, hmk], by go_num, HV⟩
          case measure => simp [intOf]; omega
    · obtain rfl : j = 5 := by omega
      obtain ⟨r1, r2, r3⟩ := X1.out
      have R1 := Lib.hid r1
      have R2 := Lib.hid r2
      have R3 := Lib.hid r3
      clear CI CI' JI JI' DS MY MN X1 M0 r1 r2 r3
      go_wp2_with fail
      exact bodyPost_ret (v := .tuple #[.int .i64 (M 25).1, .int .i64 (M 25).2.1, .int .i64 0]) (by simp [results, Try.results39, go_sem]) rfl ⟨by rw [R1.out, R2.out, R3.out], HB.out.bel⟩
end Go.Proofs.Ytgclhkiiaclkgaa.Je
