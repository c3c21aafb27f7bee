/- Leathers: the spec's BestDirection, MatchDirections. -/
import Derived.Test.YtgclhkiiaclkgaaJcLib
namespace Go.Proofs.Ytgclhkiiaclkgaa.Jd
set_option linter.unusedVariables false
open Go.RowKit Qb Ja Jb
open Go.Proofs.Ytgclhkiiaclkgaa.Ba (inB below_then below_box blk_keep blk2 blk4 blk_free ret_bool ret_int)

/-- The best of the first k directions; -1 if there is none. -/
def bdS (lo hi : Int) (X : Nat → Int) : Nat → Int
  | 0 => -1
  | k + 1 => if inB (X k) (40 * lo) (40 * hi) = true ∧ (bdS lo hi X k < 0 ∨ X k < X (bdS lo hi X k).toNat) then (k : Int) else bdS lo hi X k
theorem bds_in (lo hi : Int) (X : Nat → Int) : ∀ k, -1 ≤ bdS lo hi X k ∧ bdS lo hi X k < (k : Int)
  | 0 => by unfold bdS; omega
  | k + 1 => by
    have := bds_in lo hi X k
    unfold bdS
    split <;> omega
def bdB (f lo hi : Int) : Bool := frcB f && (inB hi 0 500 && inB lo 0 hi)
theorem bd_in {f lo hi : Int} (h : bdB f lo hi = true) : (0 ≤ f ∧ f ≤ 1000) ∧ (0 ≤ hi ∧ hi ≤ 500) ∧ (0 ≤ lo ∧ lo ≤ 500) := by
  unfold bdB frcB at h
  simp only [Bool.and_eq_true] at h
  have h1 := inb h.1
  have h2 := inb h.2.1
  have h3 := inb h.2.2
  exact ⟨h1, h2, by omega⟩
def xs (a c f : Int) (k : Nat) : Int := st a c (k : Int) f
def bdC (a c s m f lo hi : Int) : Int := if leB a c s m = false then 1 else if bdB f lo hi = false then 2 else if bdS lo hi (xs a c f) 5 < 0 then 3 else 0
def bdV (a c s m f lo hi : Int) : Int := if bdC a c s m f lo hi = 0 then bdS lo hi (xs a c f) 5 else 0
set_option maxHeartbeats 2000000 in
theorem spec_bd (a c s m f lo hi : Int) (w : World) : Calls Try.prog 35 #[leV a c s m, .int .i64 f, .int .i64 lo, .int .i64 hi] w (IAt (bdV a c s m f lo hi) (bdC a c s m f lo hi) w) := by
  have BX := Lib.hid (Bx.of w (leO a c s m))
  have CO := Lib.hid (fun w => ok_any a c s m w)
  have CF := Lib.hid (fun w => frc_any f w)
  have C2 := Lib.hid (fun w => in_any hi 0 500 w)
  have C3 := Lib.hid (fun w => in_any lo 0 hi w)
  have HA : Hid (bdB f lo hi = (frcB f && (inB hi 0 500 && inB lo 0 hi))) := Lib.hid rfl
  have CS := Lib.hid (fun (h1 : leB a c s m = true) (h2 : bdB f lo hi = true) (k : Nat) (hk : k < 5) w => stretch_any a c s m (k : Int) f (le_in h1).1 (le_in h1).2.1 (by omega) (bd_in h2).1 w)
  have AI := Lib.hid (fun (h1 : bdB f lo hi = true) => (bd_in h1).2)
  have V0 : Hid (leB a c s m = false → bdC a c s m f lo hi = 1 ∧ bdV a c s m f lo hi = 0) := Lib.hid fun h => by
    have e : bdC a c s m f lo hi = 1 := if_pos h
    exact ⟨e, by unfold bdV; rw [e]; rfl⟩
  have V1 : Hid (leB a c s m = true → bdB f lo hi = false → bdC a c s m f lo hi = 2 ∧ bdV a c s m f lo hi = 0) := Lib.hid fun h h1 => by
    have e : bdC a c s m f lo hi = 2 := by unfold bdC; simp [h, h1]
    exact ⟨e, by unfold bdV; rw [e]; rfl⟩
  have V2 : Hid (leB a c s m = true → bdB f lo hi = true → bdS lo hi (xs a c f) 5 < 0 → bdC a c s m f lo hi = 3 ∧ bdV a c s m f lo hi = 0) := Lib.hid fun h h1 h2 => by
    have e : bdC a c s m f lo hi = 3 := by unfold bdC; simp [h, h1, h2]
    exact ⟨e, by unfold bdV; rw [e]; rfl⟩
  have V3 : Hid (leB a c s m = true → bdB f lo hi = true → 0 ≤ bdS lo hi (xs a c f) 5 → bdC a c s m f lo hi = 0 ∧ bdV a c s m f lo hi = bdS lo hi (xs a c f) 5) := Lib.hid fun h h1 h2 => by
    have e : bdC a c s m f lo hi = 0 := by unfold bdC; simp [h, h1]; omega
    exact ⟨e, by unfold bdV; rw [if_pos e]⟩
  have BI := Lib.hid (bds_in lo hi (xs a c f))
  have B0 : Hid (bdS lo hi (xs a c f) 0 = -1) := Lib.hid rfl
  have BS : Hid (∀ k, bdS lo hi (xs a c f) (k + 1) = if inB (xs a c f k) (40 * lo) (40 * hi) = true ∧ (bdS lo hi (xs a c f) k < 0 ∨ xs a c f k < xs a c f (bdS lo hi (xs a c f) k).toNat) then (k : Int) else bdS lo hi (xs a c f) k) := Lib.hid fun k => rfl
  have CI := Lib.hid (fun x w => in_any x (40 * lo) (40 * hi) w)
  unfold IAt
  generalize bdC a c s m f lo hi = rc at V0 V1 V2 V3 ⊢
  generalize bdV a c s m f lo hi = rv at V0 V1 V2 V3 ⊢
  generalize bdS lo hi (xs a c f) = B at V2 V3 BI B0 BS
  obtain ⟨X, hX⟩ : ∃ X : Nat → Int, ∀ k : Nat, st a c (k : Int) f = X k := ⟨_, fun _ => rfl⟩
  have hX2 : ∀ k, xs a c f k = X k := hX
  simp only [hX, hX2] at CS BS
  clear hX hX2
  generalize leB a c s m = ok at CO CS V0 V1 V2 V3
  generalize bdB f lo hi = ab at CS AI V1 V2 V3 HA
  generalize frcB f = k1 at CF HA
  generalize inB hi 0 500 = k2 at C2 HA
  generalize inB lo 0 hi = k3 at C3 HA
  go_enter Try.func35, Try.ntmps35
  go_upto_region 1 with fail
  generalize hw9 : World.alloc _ _ = w0 at BX ⊢
  clear hw9
  obtain ⟨z0, z1, z2, z3⟩ := blk4 BX.out.box
  go_wp2_with fail
  refine (CO.out _).mono ?_
  rintro e w1 ⟨rfl, b1⟩
  have BX1 := Lib.hid (BX.out.below b1)
  clear b1 BX CO z0 z1 z2 z3
  cases ok
  · obtain ⟨r1, r2⟩ := V0.out rfl
    have R1 := Lib.hid r1
    have R2 := Lib.hid r2
    clear V0 V1 V2 V3 CS AI BI B0 BS r1 r2
    go_wp2_with fail
    exact bodyPost_ret (v := .tuple #[.int .i64 0, .int .i64 1]) (by simp [results, Try.results35, go_sem]) rfl ⟨by rw [R1.out, R2.out], BX1.out.bel⟩
  have W1 := Lib.hid (V1.out rfl)
  have W2 := Lib.hid (V2.out rfl)
  have W3 := Lib.hid (V3.out rfl)
  have CS1 := Lib.hid (CS.out rfl)
  clear V0 V1 V2 V3 CS
  cases k1 <;> cases k2 <;> cases k3
  case true.true.true =>
    have ha : ab = true := HA.out
    subst ha
    have U2 := Lib.hid (W2.out rfl)
    have U3 := Lib.hid (W3.out rfl)
    obtain ⟨hh, hl⟩ := AI.out rfl
    have CS2 := Lib.hid (CS1.out rfl)
    clear W1 W2 W3 AI CS1 HA
    go_wp2_with (first | (go_at_call 58; refine (CF.out _).mono ?_; rintro e w' ⟨rfl, rfl⟩) | (go_at_call_of 67 lo; refine (C3.out _).mono ?_; rintro e w' ⟨rfl, rfl⟩) | (go_at_call_of 67 hi; refine (C2.out _).mono ?_; rintro e w' ⟨rfl, rfl⟩))
    go_loopw [10, 11, 12] (fun b u _ wr => ∃ k : Nat, k ≤ 5 ∧ b = .int .i64 (B k) ∧ u = .int .i64 (k : Int) ∧ Hid (Bx w wr (leO a c s m))) (fun _ u _ _ => 5 - (intOf u).toNat)
    case atStart => exact ⟨0, Nat.zero_le _, by rw [B0.out], rfl, BX1⟩
    case round =>
      obtain ⟨k, hk, rfl, rfl, HB⟩ := hrel
      have f0 : (0 : Int) ≤ (k : Int) := Int.natCast_nonneg _
      by_cases hlt : k < 5
      · have f1 : (k : Int) ≤ 4 := by omega
        have CK := Lib.hid (CS2.out k hlt)
        have CX := Lib.hid (CI.out (X k))
        have hk1 : k + 1 ≤ 5 := by omega
        have bi := BI.out k
        have HS := Lib.hid (BS.out k)
        have hq : 0 ≤ B k → ∃ q : Nat, q < 5 ∧ B k = (q : Int) ∧ X (B k).toNat = X q := fun h => ⟨(B k).toNat, by omega, by omega, rfl⟩
        have HQ := Lib.hid hq
        generalize hB1 : B (k + 1) = b1 at HS
        obtain ⟨z0, z1, z2, z3⟩ := blk4 HB.out.box
        clear hq CI BI BS B0 U2 U3
        go_wp2_with fail
        refine (CK.out _).mono ?_
        rintro e w2 ⟨rfl, b2⟩
        have HB2 := Lib.hid (HB.out.below b2)
        clear b2 HB CK z0 z1 z2 z3
        have t1 : IntKind.i64.wrap (40 * lo) = 40 * lo := IntWalk.i64_in _ (by omega)
        have t2 : IntKind.i64.wrap (40 * hi) = 40 * hi := IntWalk.i64_in _ (by omega)
        generalize inB (X k) (40 * lo) (40 * hi) = ib at HS CX
        cases ib
        · have HE : Hid (b1 = B k) := Lib.hid (HS.out.trans (if_neg (by simp)))
          clear HS CS2 HQ
          generalize B k = bk at *
          generalize X k = x at *
          go_wp2_with (go_at_call 67; refine (CX.out _).mono ?_; rintro e w' ⟨rfl, rfl⟩)
          go_roundw
          case rel => exact ⟨k + 1, hk1, by rw [hB1, HE.out], by go_num, HB2⟩
          case measure => simp [intOf]; omega
        by_cases hb : B k < 0
        · have HE : Hid (b1 = (k : Int)) := Lib.hid (HS.out.trans (if_pos ⟨rfl, .inl hb⟩))
          clear HS CS2 HQ
          generalize B k = bk at *
          generalize X k = x at *
          go_wp2_with (go_at_call 67; refine (CX.out _).mono ?_; rintro e w' ⟨rfl, rfl⟩)
          go_roundw
          case rel => exact ⟨k + 1, hk1, by rw [hB1, HE.out], by go_num, HB2⟩
          case measure => simp [intOf]; omega
        obtain ⟨q, hq, eB, eX⟩ := HQ.out (by omega)
        rw [eX] at HS
        rw [eB] at HS bi hb ⊢
        have CQ := Lib.hid (CS2.out q hq)
        have g0 : ¬ (q : Int) < 0 := by omega
        clear HQ CS2 eX eB
        obtain ⟨z0, z1, z2, z3⟩ := blk4 HB2.out.box
        by_cases hx : X k < X q
        · have HE : Hid (b1 = (k : Int)) := Lib.hid (HS.out.trans (if_pos ⟨rfl, .inr hx⟩))
          clear HS
          generalize X k = x at *
          generalize X q = y at *
          go_wp2_with (go_at_call 67; refine (CX.out _).mono ?_; rintro e w' ⟨rfl, rfl⟩)
          refine (CQ.out _).mono ?_
          rintro e w3 ⟨rfl, b3⟩
          have HB3 := Lib.hid (HB2.out.below b3)
          clear b3 HB2 CQ z0 z1 z2 z3
          go_wp2_with fail
          go_roundw
          case rel => exact ⟨k + 1, hk1, by rw [hB1, HE.out], by go_num, HB3⟩
          case measure => simp [intOf]; omega
        · have HE : Hid (b1 = (q : Int)) := Lib.hid (HS.out.trans (if_neg (fun h => h.2.elim (fun h => hb h) (fun h => hx h))))
          clear HS
          generalize X k = x at *
          generalize X q = y at *
          go_wp2_with (go_at_call 67; refine (CX.out _).mono ?_; rintro e w' ⟨rfl, rfl⟩)
          refine (CQ.out _).mono ?_
          rintro e w3 ⟨rfl, b3⟩
          have HB3 := Lib.hid (HB2.out.below b3)
          clear b3 HB2 CQ z0 z1 z2 z3
          go_wp2_with fail
          go_roundw
          case rel => exact ⟨k + 1, hk1, by rw [hB1, HE.out], by go_num, HB3⟩
          case measure => simp [intOf]; omega
      · obtain rfl : k = 5 := by omega
        have bi := BI.out 5
        by_cases hb : B 5 < 0
        · obtain ⟨r1, r2⟩ := U2.out hb
          have R1 := Lib.hid r1
          have R2 := Lib.hid r2
          clear U2 U3 CS2 BI BS B0 CI r1 r2
          generalize B 5 = b5 at *
          go_wp2_with fail
          exact bodyPost_ret (v := .tuple #[.int .i64 0, .int .i64 3]) (by simp [results, Try.results35, go_sem]) rfl ⟨by rw [R1.out, R2.out], HB.out.bel⟩
        · obtain ⟨r1, r2⟩ := U3.out (by omega)
          have R1 := Lib.hid r1
          have R2 := Lib.hid r2
          clear U2 U3 CS2 BI BS B0 CI r1 r2
          generalize B 5 = b5 at *
          go_wp2_with fail
          exact bodyPost_ret (v := .tuple #[.int .i64 b5, .int .i64 0]) (by simp [results, Try.results35, go_sem]) rfl ⟨by rw [R1.out, R2.out], HB.out.bel⟩
  all_goals
    have ha : ab = false := HA.out
    subst ha
    obtain ⟨r1, r2⟩ := W1.out rfl
    have R1 := Lib.hid r1
    have R2 := Lib.hid r2
    clear W1 W2 W3 AI CS1 HA BI BS B0 CI r1 r2
    go_wp2_with (first | (go_at_call 58; refine (CF.out _).mono ?_; rintro e w' ⟨rfl, rfl⟩) | (go_at_call_of 67 lo; refine (C3.out _).mono ?_; rintro e w' ⟨rfl, rfl⟩) | (go_at_call_of 67 hi; refine (C2.out _).mono ?_; rintro e w' ⟨rfl, rfl⟩))
    exact bodyPost_ret (v := .tuple #[.int .i64 0, .int .i64 2]) (by simp [results, Try.results35, go_sem]) rfl ⟨by rw [R1.out, R2.out], BX1.out.bel⟩
end Go.Proofs.Ytgclhkiiaclkgaa.Jd
