/- Leathers: the program's BestDirection. -/
import Derived.Test.YtgclhkiiaclkgaaP4Lib
import Derived.Test.YtgclhkiiaclkgaaJdLib
namespace Go.Proofs.Ytgclhkiiaclkgaa.P7
set_option linter.unusedVariables false
open Go.RowKit Is Ge Qb Ja Jb Jc Jd P1 P2 P3 P4
open Go.Proofs.Ytgclhkiiaclkgaa.Ba (inB below_then below_box blk1 blk2)

/-- The course of the best direction so far. -/
def boO (a c s m b : Int) : Obj := if b < 0 then coO 0 0 0 0 0 else coO a c s m b
/-- What stays while directions are tried: all that lay before, the leather's box, the best course. -/
structure Bd (w wr : World) (g : Nat) (o ob : Obj) : Prop where
  bel : Below w.heap.size w wr
  box : wr.heap[w.heap.size]? = some o
  ge : w.heap.size < g
  bst : wr.heap[g]? = some ob
theorem Bd.below {w wr w' : World} {g : Nat} {o ob : Obj} (h : Bd w wr g o ob) (hb : Below wr.heap.size wr w') : Bd w w' g o ob := ⟨below_then h.bel hb, Ge.blk_keep hb h.box, h.ge, Ge.blk_keep hb h.bst⟩
theorem Bd.put {w wr : World} {g : Nat} {o : Obj} {a c s m b a' c' s' m' b' : Int} (h : Bd w wr g o (coO a c s m b)) :
    Bd w (((((wr.setCell ⟨g, 0, none⟩ (.int .i64 a')).setCell ⟨g, 1, none⟩ (.int .i64 c')).setCell ⟨g, 2, none⟩ (.int .i64 s')).setCell ⟨g, 3, none⟩ (.int .i64 m')).setCell ⟨g, 4, none⟩ (.int .i64 b')) g o (coO a' c' s' m' b') := by
  have hg := h.ge
  refine ⟨((((h.bel.setCell (p := ⟨g, 0, none⟩) (by show w.heap.size ≤ g; omega) _).setCell (p := ⟨g, 1, none⟩) (by show w.heap.size ≤ g; omega) _).setCell (p := ⟨g, 2, none⟩) (by show w.heap.size ≤ g; omega) _).setCell (p := ⟨g, 3, none⟩) (by show w.heap.size ≤ g; omega) _).setCell (p := ⟨g, 4, none⟩) (by show w.heap.size ≤ g; omega) _, ?_, hg, ?_⟩
  · have e : ∀ (W : World) i v, W.heap[w.heap.size]? = some o → (W.setCell ⟨g, i, none⟩ v).heap[w.heap.size]? = some o := fun W i v q => (Below.heap_setCell _ _ _ _ (by show w.heap.size ≠ g; omega)).trans q
    exact e _ _ _ (e _ _ _ (e _ _ _ (e _ _ _ (e _ _ _ h.box))))
  · exact heap_set (heap_set (heap_set (heap_set (heap_set h.bst 0 _) 1 _) 2 _) 3 _) 4 _
theorem in_no_low {x lo hi : Int} (h : x * 1 < lo * 40) : inB x (40 * lo) (40 * hi) = false := Ba.in_low (by omega)
theorem in_no_high {x lo hi : Int} (h : hi * 40 < x * 1) : inB x (40 * lo) (40 * hi) = false := Ba.in_high (by omega)
theorem in_yes' {x lo hi : Int} (h : ¬ x * 1 < lo * 40) (h' : ¬ hi * 40 < x * 1) : inB x (40 * lo) (40 * hi) = true := Ba.in_yes (by omega) (by omega)
set_option maxHeartbeats 4000000 in
theorem impl_bd (a c s m f lo hi : Int) (w : World) : Calls Try.prog 36 #[leV a c s m, .int .i64 f, .int .i64 lo, .int .i64 hi] w (IAt (bdV a c s m f lo hi) (bdC a c s m f lo hi) w) := by
  have BX := Lib.hid (Bx.of w (leO a c s m))
  have CO := Lib.hid (fun w => ivalid a c s m w)
  have CF := Lib.hid (fun w => Ba.within_any f 0 1000 w)
  have C2 := Lib.hid (fun w => Ba.within_any hi 0 500 w)
  have C3 := Lib.hid (fun w => Ba.within_any lo 0 hi w)
  have HA : Hid (bdB f lo hi = (inB f 0 1000 && (inB hi 0 500 && inB lo 0 hi))) := Lib.hid rfl
  have CS := Lib.hid (fun (h1 : leB a c s m = true) (h2 : bdB f lo hi = true) (k : Nat) (hk : k < 5) w => istretch a c s m (k : Int) f (le_in h1).1 (le_in h1).2.1 (by omega) (bd_in h2).1 w)
  have SI := Lib.hid (fun (h1 : leB a c s m = true) (h2 : bdB f lo hi = true) (k : Nat) (hk : k < 5) => st_in (a := a) (c := c) (d := (k : Int)) (f := f) (le_in h1).1 (le_in h1).2.1 (by omega) (bd_in h2).1)
  have AI := Lib.hid (fun (h1 : bdB f lo hi = true) => (bd_in h1).2)
  have V0 : Hid (leB a c s m = false → bdC a c s m f lo hi = 1 ∧ bdV a c s m f lo hi = 0) := Lib.hid fun h => by
    have e : bdC a c s m f lo hi = 1 := if_pos h
    exact ⟨e, by unfold bdV; rw [e]; rfl⟩
  have V1 : Hid (leB a c s m = true → bdB f lo hi = false → bdC a c s m f lo hi = 2 ∧ bdV a c s m f lo hi = 0) := Lib.hid fun h h1 => by
    have e : bdC a c s m f lo hi = 2 := by unfold bdC; simp [h, h1]
    exact ⟨e, by unfold bdV; rw [e]; rfl⟩
  have V2 : Hid (leB a c s m = true → bdB f lo hi = true → bdS lo hi (xs a c f) 5 < 0 → bdC a c s m f lo hi = 3 ∧ bdV a c s m f lo hi = 0) := Lib.hid fun h h1 h2 => by
    have e : bdC a c s m f lo hi = 3 := by unfold bdC; simp [h, h1, h2]
    exact ⟨e, by unfold bdV; rw [e]; rfl⟩
  have V3 : Hid (leB a c s m = true → bdB f lo hi = true → 0 ≤ bdS lo hi (xs a c f) 5 → bdC a c s m f lo hi = 0 ∧ bdV a c s m f lo hi = bdS lo hi (xs a c f) 5) := Lib.hid fun h h1 h2 => by
    have e : bdC a c s m f lo hi = 0 := by unfold bdC; simp [h, h1]; omega
    exact ⟨e, by unfold bdV; rw [if_pos e]⟩
  have BI := Lib.hid (bds_in lo hi (xs a c f))
  have B0 : Hid (bdS lo hi (xs a c f) 0 = -1) := Lib.hid rfl
  have BS : Hid (∀ k, bdS lo hi (xs a c f) (k + 1) = if inB (xs a c f k) (40 * lo) (40 * hi) = true ∧ (bdS lo hi (xs a c f) k < 0 ∨ xs a c f k < xs a c f (bdS lo hi (xs a c f) k).toNat) then (k : Int) else bdS lo hi (xs a c f) k) := Lib.hid fun k => rfl
  unfold IAt
  generalize bdC a c s m f lo hi = rc at V0 V1 V2 V3 ⊢
  generalize bdV a c s m f lo hi = rv at V0 V1 V2 V3 ⊢
  generalize bdS lo hi (xs a c f) = B at V2 V3 BI B0 BS
  obtain ⟨X, hX⟩ : ∃ X : Nat → Int, ∀ k : Nat, st a c (k : Int) f = X k := ⟨_, fun _ => rfl⟩
  have hX2 : ∀ k, xs a c f k = X k := hX
  simp only [hX, hX2] at CS BS SI
  clear hX hX2
  generalize leB a c s m = ok at CO CS SI V0 V1 V2 V3
  generalize bdB f lo hi = ab at CS SI AI V1 V2 V3 HA
  generalize inB f 0 1000 = k1 at CF HA
  generalize inB hi 0 500 = k2 at C2 HA
  generalize inB lo 0 hi = k3 at C3 HA
  go_enter Try.func36, Try.ntmps36
  go_upto_region 1 with fail
  generalize hw9 : World.alloc _ _ = w0 at BX ⊢
  clear hw9
  obtain ⟨z0, z1, z2, z3⟩ := Ba.blk4 BX.out.box
  cases ok
  · obtain ⟨r1, r2⟩ := V0.out rfl
    have R1 := Lib.hid r1
    have R2 := Lib.hid r2
    clear V0 V1 V2 V3 CS SI AI BI B0 BS r1 r2 HA
    cases k1 <;> cases k2 <;> cases k3
    all_goals
      go_wp2_with (first | (go_at_call_of 68 lo; refine (C3.out _).mono ?_; rintro e w' ⟨rfl, rfl⟩) | (go_at_call_of 68 hi; refine (C2.out _).mono ?_; rintro e w' ⟨rfl, rfl⟩) | (go_at_call_of 68 f; refine (CF.out _).mono ?_; rintro e w' ⟨rfl, rfl⟩))
      refine (CO.out _).mono ?_
      rintro e w1 ⟨rfl, b1⟩
      have BX1 := Lib.hid (BX.out.below b1)
      clear b1
      go_wp2_with fail
      refine (Ba.arg_inv _ _).mono ?_
      rintro e w' ⟨rfl, rfl⟩
      go_wp2_with fail
      exact bodyPost_ret (v := .tuple #[.int .i64 0, .int .i64 1]) (by simp [results, Try.results36, go_sem]) rfl ⟨by rw [R1.out, R2.out], BX1.out.bel⟩
  have W1 := Lib.hid (V1.out rfl)
  have W2 := Lib.hid (V2.out rfl)
  have W3 := Lib.hid (V3.out rfl)
  have CS1 := Lib.hid (CS.out rfl)
  have SI1 := Lib.hid (SI.out rfl)
  clear V0 V1 V2 V3 CS SI
  cases k1 <;> cases k2 <;> cases k3
  case true.true.true =>
    have ha : ab = true := HA.out
    subst ha
    have U2 := Lib.hid (W2.out rfl)
    have U3 := Lib.hid (W3.out rfl)
    obtain ⟨hh, hl⟩ := AI.out rfl
    have CS2 := Lib.hid (CS1.out rfl)
    have SI2 := Lib.hid (SI1.out rfl)
    clear W1 W2 W3 AI CS1 SI1 HA
    go_wp2_with (first | (go_at_call_of 68 lo; refine (C3.out _).mono ?_; rintro e w' ⟨rfl, rfl⟩) | (go_at_call_of 68 hi; refine (C2.out _).mono ?_; rintro e w' ⟨rfl, rfl⟩) | (go_at_call_of 68 f; refine (CF.out _).mono ?_; rintro e w' ⟨rfl, rfl⟩))
    refine (CO.out _).mono ?_
    rintro e w1 ⟨rfl, b1⟩
    have BX1 := Lib.hid (BX.out.below b1)
    clear b1 BX CO z0 z1 z2 z3
    go_wp2_with fail
    refine (Ba.arg_ok _).mono ?_
    rintro e w' ⟨rfl, rfl⟩
    have BD : Hid (Bd w (w1.alloc (coO 0 0 0 0 0)) w1.heap.size (leO a c s m) (coO 0 0 0 0 0)) := Lib.hid ⟨below_then BX1.out.bel (below_box _ _), Ge.blk_keep (below_box _ _) BX1.out.box, Ge.lt_of_heap BX1.out.box, heap_alloc_new _ _⟩
    clear BX1 CF C2 C3
    go_upto_region 6 with fail
    generalize hw9 : World.alloc _ _ = w2 at BD ⊢
    clear hw9
    generalize w1.heap.size = g at *
    go_wp2_with fail
    go_loopw [13, 14, 15, 16, 35] (fun cd _ _ _ u wr => ∃ (k : Nat) (cv : Int), k ≤ 5 ∧ cd = .int .i64 cv ∧ u = .int .i64 (k : Int) ∧ Hid (Bd w wr g (leO a c s m) (boO a c s m (B k))) ∧ Hid ((B k < 0 ∧ cv = 3) ∨ (0 ≤ B k ∧ cv = 0))) (fun _ _ _ _ u _ => 5 - (intOf u).toNat)
    case atStart => exact ⟨0, 3, Nat.zero_le _, rfl, rfl, by rw [B0.out]; exact BD, Lib.hid (.inl ⟨by rw [B0.out]; omega, rfl⟩)⟩
    case round =>
      obtain ⟨k, cv, hk, rfl, rfl, HB, HC⟩ := hrel
      have f0 : (0 : Int) ≤ (k : Int) := Int.natCast_nonneg _
      by_cases hlt : k < 5
      · have f1 : (k : Int) ≤ 4 := by omega
        have CK := Lib.hid (CS2.out k hlt)
        have hx := SI2.out k hlt
        have hk1 : k + 1 ≤ 5 := by omega
        have bi := BI.out k
        have HS := Lib.hid (BS.out k)
        have hq : 0 ≤ B k → ∃ q : Nat, q < 5 ∧ B k = (q : Int) ∧ X (B k).toNat = X q := fun h => ⟨(B k).toNat, by omega, by omega, rfl⟩
        have HQ := Lib.hid hq
        generalize hB1 : B (k + 1) = b1 at HS
        obtain ⟨z0, z1, z2, z3⟩ := Ba.blk4 HB.out.box
        clear hq BI BS B0 U2 U3
        have HB1 := Lib.hid (HB.out.below (below_box wr (coO a c s m (k : Int))))
        have KC := Lib.hid (heap_alloc_new wr (coO a c s m (k : Int)))
        clear HB
        go_upto_region 11 with fail
        generalize hw9 : World.alloc _ _ = w3 at HB1 KC ⊢
        clear hw9 z0 z1 z2 z3
        generalize wr.heap.size = g1 at *
        obtain ⟨z0, z1, z2, z3, z4⟩ := blk5 KC.out
        go_wp2_with fail
        refine (CK.out _).mono ?_
        rintro e w4 ⟨rfl, b4⟩
        have HB2 := Lib.hid ((HB1.out.below b4).below (below_box w4 (frO (X k) 40)))
        have KC2 := Lib.hid (Ge.blk_keep (below_then b4 (below_box w4 (frO (X k) 40))) KC.out)
        have KF := Lib.hid (heap_alloc_new w4 (frO (X k) 40))
        clear b4 HB1 KC CK z0 z1 z2 z3 z4
        go_upto_region 12 with fail
        generalize hw9 : World.alloc _ _ = w5 at HB2 KC2 KF ⊢
        clear hw9
        generalize w4.heap.size = g2 at *
        have CW0 := Lib.hid (fun p : Beyond w5 => iwhole lo p.to)
        have CW1 := Lib.hid (fun p : Beyond w5 => iwhole hi p.to)
        generalize hxk : X k = x at *
        have CL0 := Lib.hid (fun p : Beyond w5 => iless x 40 lo 1 (by omega) (by omega) (by omega) (by omega) p.to)
        have CL1 := Lib.hid (fun p : Beyond w5 => iless hi 1 x 40 (by omega) (by omega) (by omega) (by omega) p.to)
        obtain ⟨y0, y1⟩ := blk2 KF.out
        have y0' := bey_cell y0
        have y1' := bey_cell y1
        clear y0 y1
        by_cases hlo : x * 1 < lo * 40
        · have HE : Hid (b1 = B k) := Lib.hid (HS.out.trans (if_neg (by rw [in_no_low hlo]; simp)))
          rw [decide_eq_true hlo] at CL0
          clear HS HQ CS2 SI2 CW1 CL1
          refine wp_region_below (by kernel_rfl) (by kernel_rfl) ?_
          repeat (go_big_quiet_step (first | (go_at_call 64; with_reducible exact bey_of _ (CW0.out _)) | (go_at_call 63; with_reducible exact bey_of _ (CL0.out _))))
          refine wpQuiet_nil ?_
          rintro _ ⟨pq, rfl⟩
          have HB3 := Lib.hid (HB2.out.below pq.h)
          generalize pq.to = w6 at HB3 ⊢
          clear y0' y1' CW0 CL0 HB2 KC2 KF
          go_wp2_with fail
          go_roundw
          case rel => exact ⟨k + 1, cv, hk1, rfl, by go_num, by rw [hB1, HE.out]; exact HB3, by rw [hB1, HE.out]; exact HC⟩
          case measure => simp [intOf]; omega
        rw [decide_eq_false hlo] at CL0
        by_cases hhi : hi * 40 < x * 1
        · have HE : Hid (b1 = B k) := Lib.hid (HS.out.trans (if_neg (by rw [in_no_high hhi]; simp)))
          rw [decide_eq_true hhi] at CL1
          clear HS HQ CS2 SI2
          refine wp_region_below (by kernel_rfl) (by kernel_rfl) ?_
          repeat (go_big_quiet_step (first | (go_at_call_of 64 lo; with_reducible exact bey_of _ (CW0.out _)) | (go_at_call_of 64 hi; with_reducible exact bey_of _ (CW1.out _)) | (go_at_call_of 63 lo; with_reducible exact bey_of _ (CL0.out _)) | (go_at_call_of 63 hi; with_reducible exact bey_of _ (CL1.out _))))
          refine wpQuiet_nil ?_
          rintro _ ⟨pq, rfl⟩
          have HB3 := Lib.hid (HB2.out.below pq.h)
          generalize pq.to = w6 at HB3 ⊢
          clear y0' y1' CW0 CL0 CW1 CL1 HB2 KC2 KF
          go_wp2_with fail
          go_roundw
          case rel => exact ⟨k + 1, cv, hk1, rfl, by go_num, by rw [hB1, HE.out]; exact HB3, by rw [hB1, HE.out]; exact HC⟩
          case measure => simp [intOf]; omega
        rw [decide_eq_false hhi] at CL1
        have hin := in_yes' hlo hhi
        refine wp_region_below (by kernel_rfl) (by kernel_rfl) ?_
        repeat (go_big_quiet_step (first | (go_at_call_of 64 lo; with_reducible exact bey_of _ (CW0.out _)) | (go_at_call_of 64 hi; with_reducible exact bey_of _ (CW1.out _)) | (go_at_call_of 63 lo; with_reducible exact bey_of _ (CL0.out _)) | (go_at_call_of 63 hi; with_reducible exact bey_of _ (CL1.out _))))
        refine wpQuiet_nil ?_
        rintro _ ⟨pq, rfl⟩
        have HB3 := Lib.hid (HB2.out.below pq.h)
        have KC3 := Lib.hid (Ge.blk_keep pq.h KC2.out)
        have KF3 := Lib.hid (Ge.blk_keep pq.h KF.out)
        generalize pq.to = w6 at HB3 KC3 KF3 ⊢
        clear y0' y1' CW0 CL0 CW1 CL1 HB2 KC2 KF
        rcases HC.out with ⟨hb, rfl⟩ | ⟨hb, rfl⟩
        · have HE : Hid (b1 = (k : Int)) := Lib.hid (HS.out.trans (if_pos ⟨hin, .inl hb⟩))
          have hbo : boO a c s m (B k) = coO 0 0 0 0 0 := if_pos hb
          rw [hbo] at HB3
          clear HS HQ CS2 SI2 HC
          go_upto_region 13 with fail
          refine wp_region_below (by kernel_rfl) (by kernel_rfl) ?_
          repeat (go_big_quiet_step (fail))
          refine wpQuiet_nil ?_
          rintro _ ⟨pq, rfl⟩
          have HB4 := Lib.hid (HB3.out.below pq.h)
          have KC4 := Lib.hid (Ge.blk_keep pq.h KC3.out)
          generalize pq.to = w7 at HB4 KC4 ⊢
          clear HB3 KC3 KF3
          obtain ⟨z0, z1, z2, z3, z4⟩ := blk5 KC4.out
          obtain ⟨t0, t1, t2, t3, t4⟩ := blk5 HB4.out.bst
          have hfr := blk_free HB4.out.bst
          have HP := Lib.hid (HB4.out.put (a' := a) (c' := c) (s' := s) (m' := m) (b' := (k : Int)))
          have hbk : boO a c s m (k : Int) = coO a c s m (k : Int) := if_neg (by omega)
          go_wp2_with fail
          go_roundw
          case rel => exact ⟨k + 1, 0, hk1, rfl, by go_num, by rw [hB1, HE.out, hbk]; exact HP, Lib.hid (.inr ⟨by rw [hB1, HE.out]; exact f0, rfl⟩)⟩
          case measure => simp [intOf]; omega
        obtain ⟨q, hq, eB, eX⟩ := HQ.out hb
        rw [eX] at HS
        have hbo : boO a c s m (B k) = coO a c s m (q : Int) := by unfold boO; rw [if_neg (by omega), eB]
        rw [hbo] at HB3
        have CQ := Lib.hid (fun p : Beyond w6 => CS2.out q hq p.to)
        have hxq := SI2.out q hq
        have HBk : Hid (0 ≤ B k ∧ boO a c s m (B k) = coO a c s m (q : Int)) := Lib.hid ⟨hb, hbo⟩
        clear HQ CS2 eX SI2 hbo
        generalize X q = y at *
        have CL2 := Lib.hid (fun p : Beyond w6 => iless x 40 y 40 (by omega) (by omega) (by omega) (by omega) p.to)
        obtain ⟨y0, y1⟩ := blk2 KF3.out
        have y0' := bey_cell y0
        have y1' := bey_cell y1
        obtain ⟨t0, t1, t2, t3, t4⟩ := blk5 HB3.out.bst
        have t0' := bey_cell t0
        have t1' := bey_cell t1
        have t2' := bey_cell t2
        have t3' := bey_cell t3
        have t4' := bey_cell t4
        clear y0 y1 t0 t1 t2 t3 t4
        have hd : decide (x * 40 < y * 40) = decide (x < y) := by
          by_cases h : x < y
          · rw [decide_eq_true h, decide_eq_true (by omega)]
          · rw [decide_eq_false h, decide_eq_false (by omega)]
        rw [hd] at CL2
        by_cases hxy : x < y
        · have HE : Hid (b1 = (k : Int)) := Lib.hid (HS.out.trans (if_pos ⟨hin, .inr hxy⟩))
          rw [decide_eq_true hxy] at CL2
          clear HS hd HC
          go_upto_region 13 with fail
          refine wp_region_below (by kernel_rfl) (by kernel_rfl) ?_
          repeat (go_big_quiet_step (first | (go_at_call 53; with_reducible exact bey_of _ (CQ.out _)) | (go_at_call 63; with_reducible exact bey_of _ (CL2.out _))))
          refine wpQuiet_nil ?_
          rintro _ ⟨pq, rfl⟩
          have HB4 := Lib.hid (HB3.out.below pq.h)
          have KC4 := Lib.hid (Ge.blk_keep pq.h KC3.out)
          generalize pq.to = w7 at HB4 KC4 ⊢
          clear HB3 KC3 KF3 t0' t1' t2' t3' t4' y0' y1' CQ CL2
          obtain ⟨z0, z1, z2, z3, z4⟩ := blk5 KC4.out
          obtain ⟨t0, t1, t2, t3, t4⟩ := blk5 HB4.out.bst
          have hfr := blk_free HB4.out.bst
          have HP := Lib.hid (HB4.out.put (a' := a) (c' := c) (s' := s) (m' := m) (b' := (k : Int)))
          have hbk : boO a c s m (k : Int) = coO a c s m (k : Int) := if_neg (by omega)
          go_wp2_with fail
          go_roundw
          case rel => exact ⟨k + 1, 0, hk1, rfl, by go_num, by rw [hB1, HE.out, hbk]; exact HP, Lib.hid (.inr ⟨by rw [hB1, HE.out]; exact f0, rfl⟩)⟩
          case measure => simp [intOf]; omega
        · have HE : Hid (b1 = B k) := Lib.hid (HS.out.trans (if_neg (fun h => h.2.elim (fun h => by omega) (fun h => hxy h))))
          rw [decide_eq_false hxy] at CL2
          clear HS hd HC
          go_upto_region 13 with fail
          refine wp_region_below (by kernel_rfl) (by kernel_rfl) ?_
          repeat (go_big_quiet_step (first | (go_at_call 53; with_reducible exact bey_of _ (CQ.out _)) | (go_at_call 63; with_reducible exact bey_of _ (CL2.out _))))
          refine wpQuiet_nil ?_
          rintro _ ⟨pq, rfl⟩
          have HB4 := Lib.hid (HB3.out.below pq.h)
          generalize pq.to = w7 at HB4 ⊢
          clear HB3 KC3 KF3 t0' t1' t2' t3' t4' y0' y1' CQ CL2
          go_wp2_with fail
          go_roundw
          case rel => exact ⟨k + 1, 0, hk1, rfl, by go_num, by rw [hB1, HE.out, HBk.out.2]; exact HB4, Lib.hid (.inr ⟨by rw [hB1, HE.out]; exact HBk.out.1, rfl⟩)⟩
          case measure => simp [intOf]; omega
      · obtain rfl : k = 5 := by omega
        rcases HC.out with ⟨hb, rfl⟩ | ⟨hb, rfl⟩
        · obtain ⟨r1, r2⟩ := U2.out hb
          have R1 := Lib.hid r1
          have R2 := Lib.hid r2
          have hbo : boO a c s m (B 5) = coO 0 0 0 0 0 := if_pos hb
          rw [hbo] at HB
          obtain ⟨t0, t1, t2, t3, t4⟩ := blk5 HB.out.bst
          clear U2 U3 CS2 SI2 BI BS B0 HC r1 r2 hbo
          go_wp2_with fail
          exact bodyPost_ret (v := .tuple #[.int .i64 0, .int .i64 3]) (by simp [results, Try.results36, go_sem]) rfl ⟨by rw [R1.out, R2.out], HB.out.bel⟩
        · obtain ⟨r1, r2⟩ := U3.out hb
          have R1 := Lib.hid r1
          have R2 := Lib.hid r2
          have hbo : boO a c s m (B 5) = coO a c s m (B 5) := if_neg (by omega)
          rw [hbo] at HB
          obtain ⟨t0, t1, t2, t3, t4⟩ := blk5 HB.out.bst
          clear U2 U3 CS2 SI2 BI BS B0 HC r1 r2 hbo
          generalize B 5 = b5 at *
          go_wp2_with fail
          exact bodyPost_ret (v := .tuple #[.int .i64 b5, .int .i64 0]) (by simp [results, Try.results36, go_sem]) rfl ⟨by rw [R1.out, R2.out], HB.out.bel⟩
  all_goals
    have ha : ab = false := HA.out
    subst ha
    obtain ⟨r1, r2⟩ := W1.out rfl
    have R1 := Lib.hid r1
    have R2 := Lib.hid r2
    clear W1 W2 W3 AI CS1 SI1 HA BI BS B0 r1 r2
    go_wp2_with (first | (go_at_call_of 68 lo; refine (C3.out _).mono ?_; rintro e w' ⟨rfl, rfl⟩) | (go_at_call_of 68 hi; refine (C2.out _).mono ?_; rintro e w' ⟨rfl, rfl⟩) | (go_at_call_of 68 f; refine (CF.out _).mono ?_; rintro e w' ⟨rfl, rfl⟩))
    refine (CO.out _).mono ?_
    rintro e w1 ⟨rfl, b1⟩
    have BX1 := Lib.hid (BX.out.below b1)
    clear b1
    go_wp2_with fail
    refine (Ba.arg_rng _).mono ?_
    rintro e w' ⟨rfl, rfl⟩
    go_wp2_with fail
    exact bodyPost_ret (v := .tuple #[.int .i64 0, .int .i64 2]) (by simp [results, Try.results36, go_sem]) rfl ⟨by rw [R1.out, R2.out], BX1.out.bel⟩
end Go.Proofs.Ytgclhkiiaclkgaa.P7
