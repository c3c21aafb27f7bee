/- Leathers: the program's first error of forces. -/
import Derived.Test.YtgclhkiiaclkgaaP1Lib
import Derived.Test.YtgclhkiiaclkgaaP2Lib
namespace Go.Proofs.Ytgclhkiiaclkgaa.P3
set_option linter.unusedVariables false
open Go.RowKit Is Ge Qb Ja Jb Jc P1 P2
open Go.Proofs.Ytgclhkiiaclkgaa.Ba (inB below_then below_box blk_keep blk1 blk2 blk4 blk_new blk_old blk_free)

/-- Whether leather tears under one of some forces. -/
noncomputable def anB (a c m d : Int) (k : Nat) (f : Nat → Int) : Bool := tv (∃ j, j < k ∧ 40 * m < st a c d (f j))
theorem an_no {a c m d : Int} {k : Nat} {f : Nat → Int} (h : anB a c m d k f = false) {j : Nat} (hj : j < k) : st a c d (f j) ≤ 40 * m := by
  by_cases e : 40 * m < st a c d (f j)
  · rw [show anB a c m d k f = true from tv_yes ⟨j, hj, e⟩] at h
    cases h
  · omega
set_option maxRecDepth 100000 in
set_option maxHeartbeats 2000000 in
theorem contains_any (a c s m d : Int) (ha : 0 ≤ a ∧ a ≤ 100) (hc : 0 ≤ c ∧ c ≤ 100) (hm : 1 ≤ m ∧ m ≤ 500) (hd : 0 ≤ d ∧ d ≤ 4) (A : Option Addr) (k cf : Nat) (f : Nat → Int) (hf : ∀ j, j < k → 0 ≤ f j ∧ f j ≤ 1000) (hk : k ≤ 1048576) (w : World) (hF : Nums w w.heap.size A k f) :
    Calls Try.prog 82 #[.slice A k cf, .func (.func 65) #[coV a c s m d] #[]] w
      fun e w' => e = .returned (.bool (anB a c m d k f)) ∧ Below w.heap.size w w' := by
  have HF := Lib.hid hF
  have CR := Lib.hid (fun j (hj : j < k) w => itears a c s m d (f j) ha hc hm hd (hf j hj) w)
  have KI : Calls Try.prog 93 #[.slice A k cf, .func (.func 65) #[coV a c s m d] #[]] w
      fun e w' => ∃ r : Int, e = .returned (.int .i64 r) ∧ (anB a c m d k f = decide (0 ≤ r)) ∧ -1 ≤ r ∧ r ≤ 1048576 ∧ Below w.heap.size w w' := by
    clear hF ha hc hm hd hf
    generalize hR : anB a c m d k f = R
    have HRY : Hid (∀ j, j < k → 40 * m < st a c d (f j) → R = true) := Lib.hid fun j hj h => by rw [← hR]; exact tv_yes ⟨j, hj, h⟩
    have HRN : Hid ((∀ j, j < k → st a c d (f j) ≤ 40 * m) → R = false) := Lib.hid fun h => by rw [← hR]; exact tv_no fun ⟨j, hj, q⟩ => by have := h j hj; omega
    clear hR
    obtain ⟨X, hX⟩ : ∃ X : Nat → Int, ∀ j, st a c d (f j) = X j := ⟨_, fun _ => rfl⟩
    simp only [hX] at CR HRY HRN
    clear hX
    go_enter Try.func93, Try.ntmps93
    go_wp2_with fail
    go_loopw [5, 8] (fun _ i wr => ∃ j : Nat, j ≤ k ∧ i = .int .i64 j ∧ Hid (Below w.heap.size w wr) ∧ Hid (∀ i, i < j → X i ≤ 40 * m)) (fun _ i _ => k - (intOf i).toNat)
    case atStart => exact ⟨0, Nat.zero_le _, rfl, Lib.hid (Below.refl _ _), Lib.hid fun i hi => absurd hi (Nat.not_lt_zero _)⟩
    case round =>
      obtain ⟨j, hj, rfl, HB, HD⟩ := hrel
      by_cases hlt : j < k
      · obtain ⟨b, off, rfl, hb, hc⟩ := HF.out.below HB.out (Nat.le_refl _) (by omega)
        have x0 := hc j hlt
        have C := Lib.hid (CR.out j hlt)
        have HYj := Lib.hid (HRY.out j hlt)
        have e0 : (0 : Int) ≤ (j : Int) := Int.natCast_nonneg _
        have e1 : (j : Int) < (k : Int) := by omega
        have HDn : Hid (¬ 40 * m < X j → ∀ i, i < j + 1 → X i ≤ 40 * m) := Lib.hid fun h i hi => by
          by_cases e : i = j
          · rw [e]; omega
          · exact HD.out i (by omega)
        clear hc hb HRY HRN CR
        generalize X j = x at C HYj HDn
        generalize f j = y at x0 C
        by_cases hx : 40 * m < x
        · have HY : Hid (R = decide ((0 : Int) ≤ (j : Int))) := Lib.hid (by rw [decide_eq_true e0]; exact HYj.out hx)
          rw [decide_eq_true hx] at C
          clear HYj HDn
          go_wp2_with fail
          refine (C.out _).mono ?_
          rintro e wq ⟨rfl, bq⟩
          have HQ := Lib.hid (below_then HB.out bq)
          clear bq x0
          go_wp2_with fail
          go_ret
          exact ⟨(j : Int), rfl, HY.out, by omega, by omega, HQ.out⟩
        · have HD' := Lib.hid (HDn.out hx)
          rw [decide_eq_false hx] at C
          clear HYj HDn
          go_wp2_with fail
          refine (C.out _).mono ?_
          rintro e wq ⟨rfl, bq⟩
          have HQ := Lib.hid (below_then HB.out bq)
          clear bq x0
          go_wp2_with fail
          go_roundw
          case rel => exact ⟨j + 1, by omega, by go_num, HQ, HD'⟩
          case measure => simp [intOf]; omega
      · obtain rfl : j = k := by omega
        have HY : Hid (R = decide ((0 : Int) ≤ (-1 : Int))) := Lib.hid (by
          rw [decide_eq_false (by omega)]
          exact HRN.out HD.out)
        go_wp2_with fail
        go_ret
        exact ⟨-1, rfl, HY.out, by omega, by omega, HB.out⟩
  have K := Lib.hid KI
  clear KI HF CR hF ha hc hm hd hf
  generalize anB a c m d k f = R at K ⊢
  go_enter Try.func82, Try.ntmps82
  go_wp2_with fail
  refine K.out.mono ?_
  rintro e w1 ⟨r, rfl, hr, hr0, hr1, b1⟩
  have HB := Lib.hid b1
  have HR := Lib.hid hr
  clear b1 hr
  by_cases h : 0 ≤ r
  · go_wp2_with fail
    go_ret
    exact ⟨by rw [HR.out, decide_eq_true h]; rfl, HB.out⟩
  · go_wp2_with fail
    go_ret
    exact ⟨by rw [HR.out, decide_eq_false (Int.not_le.2 h)]; rfl, HB.out⟩
/-- Whether forces and lengths are in range. -/
noncomputable def rgB (d : Int) (k : Nat) (f : Nat → Int) (q : Nat) (l : Nat → Int) : Bool := dirB d && (decide (k ≤ 20) && tv (Ly.Al 0 1000 k f)) && tv (Ly.Al 1 10000 q l)
/-- The code of forces that act on pieces with some lengths. -/
noncomputable def peC (a c s m d : Int) (k : Nat) (f : Nat → Int) (q : Nat) (l : Nat → Int) : Int := if leB a c s m = false then 1 else if rgB d k f q l = false then 2 else if anB a c m d k f = true then 10 else 0
theorem rg_in {d : Int} {k : Nat} {f : Nat → Int} {q : Nat} {l : Nat → Int} (h : rgB d k f q l = true) : (0 ≤ d ∧ d ≤ 4) ∧ k ≤ 20 ∧ (∀ j, j < k → 0 ≤ f j ∧ f j ≤ 1000) ∧ ∀ j, j < q → 1 ≤ l j ∧ l j ≤ 10000 := by
  unfold rgB dirB at h
  simp only [Bool.and_eq_true, decide_eq_true_eq] at h
  exact ⟨inb h.1.1, h.1.2.1, fun j hj => inb (tv_iff.1 h.1.2.2 j hj), fun j hj => inb (tv_iff.1 h.2 j hj)⟩
set_option maxHeartbeats 2000000 in
theorem pull_any (a c s m d : Int) (A : Option Addr) (k cf : Nat) (f : Nat → Int) (B : Option Addr) (q cl : Nat) (l : Nat → Int) (hk : k ≤ 1048576) (hq : q ≤ 1048576) (w : World) (hF : Nums w w.heap.size A k f) (hL : Nums w w.heap.size B q l) :
    Calls Try.prog 52 #[coV a c s m d, .slice A k cf, .slice B q cl] w fun e w' => e = .returned (.int .i64 (peC a c s m d k f q l)) ∧ Below w.heap.size w w' := by
  have HF := Lib.hid hF
  have HL := Lib.hid hL
  have BX := Lib.hid (Bx.of w (coO a c s m d))
  have CO := Lib.hid (fun w => ivalid a c s m w)
  have CA1 := Lib.hid (fun w h => Ly.are_any 0 1000 A k cf f hk w h)
  have CA2 := Lib.hid (fun w h => Ly.are_any 1 10000 B q cl l hq w h)
  have CD := Lib.hid (fun w => Ba.within_any d 0 4 w)
  have CT := Lib.hid (fun (h1 : leB a c s m = true) (h2 : rgB d k f q l = true) w h => contains_any a c s m d (le_in h1).1 (le_in h1).2.1 (le_in h1).2.2.2 (rg_in h2).1 A k cf f (rg_in h2).2.2.1 hk w h)
  have HA : Hid (rgB d k f q l = (inB d 0 4 && (decide (k ≤ 20) && tv (Ly.Al 0 1000 k f)) && tv (Ly.Al 1 10000 q l))) := Lib.hid rfl
  have V0 : Hid (leB a c s m = false → peC a c s m d k f q l = 1) := Lib.hid fun h => if_pos h
  have V1 : Hid (leB a c s m = true → rgB d k f q l = false → peC a c s m d k f q l = 2) := Lib.hid fun h h1 => by unfold peC; simp [h, h1]
  have V2 : Hid (leB a c s m = true → rgB d k f q l = true → peC a c s m d k f q l = if anB a c m d k f = true then 10 else 0) := Lib.hid fun h h1 => by unfold peC; simp [h, h1]
  generalize peC a c s m d k f q l = r at V0 V1 V2 ⊢
  generalize leB a c s m = ok at CO CT V0 V1 V2
  generalize rgB d k f q l = rg at HA CT V1 V2
  generalize anB a c m d k f = an at CT V2
  generalize inB d 0 4 = k1 at CD HA
  generalize tv (Ly.Al 0 1000 k f) = k2 at CA1 HA
  generalize tv (Ly.Al 1 10000 q l) = k3 at CA2 HA
  clear hF hL
  go_enter Try.func52, Try.ntmps52
  go_upto_region 1 with fail
  generalize hw9 : World.alloc _ _ = w0 at BX ⊢
  clear hw9
  obtain ⟨z0, z1, z2, z3, z4⟩ := blk5 BX.out.box
  have HF0 := Lib.hid ((HF.out.below BX.out.bel (Nat.le_refl _)).more BX.out.bel.size)
  have HL0 := Lib.hid ((HL.out.below BX.out.bel (Nat.le_refl _)).more BX.out.bel.size)
  have k0 : (0 : Int) ≤ (k : Int) := Int.natCast_nonneg _
  clear HF HL
  have G1 : Hid (k ≤ 20 → (k : Int) ≤ 20) := Lib.hid fun h => by omega
  have G2 : Hid (¬ k ≤ 20 → (20 : Int) < (k : Int)) := Lib.hid fun h => by omega
  cases ok
  · by_cases h20 : k ≤ 20 <;> cases k1 <;> cases k2 <;> cases k3
    all_goals
      have HR := Lib.hid (V0.out rfl)
      first | have g20 := G1.out h20 | have g20 := G2.out h20
      clear V0 V1 V2 CT HA
      go_wp2_with (first | (go_at_call_of 81 cf; refine (CA1.out _ HF0.out).mono ?_; rintro e w' ⟨rfl, rfl⟩) | (go_at_call_of 81 cl; refine (CA2.out _ HL0.out).mono ?_; rintro e w' ⟨rfl, rfl⟩) | (go_at_call 68; refine (CD.out _).mono ?_; rintro e w' ⟨rfl, rfl⟩))
      refine (CO.out _).mono ?_
      rintro e w1 ⟨rfl, b1⟩
      have BX1 := Lib.hid (BX.out.below b1)
      clear b1
      go_wp2_with fail
      refine (Ba.arg_inv _ _).mono ?_
      rintro e w' ⟨rfl, rfl⟩
      go_wp2_with fail
      go_ret
      exact ⟨Ba.ret_int HR.out.symm, BX1.out.bel⟩
  · by_cases h20 : k ≤ 20 <;> cases k1 <;> cases k2 <;> cases k3
    case pos.true.true.true =>
      have hrg : rg = true := by rw [HA.out]; simp [h20]
      subst hrg
      have g20 : (k : Int) ≤ 20 := by omega
      have HR := Lib.hid (V2.out rfl rfl)
      have CT1 := Lib.hid (CT.out rfl rfl)
      clear V0 V1 V2 CT HA h20
      go_wp2_with fail
      refine (CA1.out _ HF0.out).mono ?_
      rintro e w' ⟨rfl, rfl⟩
      go_wp2_with fail
      refine (CD.out _).mono ?_
      rintro e w' ⟨rfl, rfl⟩
      go_wp2_with fail
      refine (CA2.out _ HL0.out).mono ?_
      rintro e w' ⟨rfl, rfl⟩
      go_wp2_with fail
      refine (CO.out _).mono ?_
      rintro e w1 ⟨rfl, b1⟩
      have BX1 := Lib.hid (BX.out.below b1)
      have HF1 := Lib.hid ((HF0.out.below b1 (Nat.le_refl _)).more b1.size)
      clear b1 BX CO CA1 CA2 CD HF0 HL0 z0 z1 z2 z3 z4
      obtain ⟨z0, z1, z2, z3, z4⟩ := blk5 BX1.out.box
      go_wp2_with fail
      refine (Ba.arg_ok _).mono ?_
      rintro e w' ⟨rfl, rfl⟩
      go_wp2_with fail
      refine (CT1.out _ HF1.out).mono ?_
      rintro e w2 ⟨rfl, b2⟩
      have HQ := Lib.hid (below_then BX1.out.bel b2)
      clear b2 BX1 CT1 HF1 z0 z1 z2 z3 z4
      cases an
      · go_wp2_with fail
        go_ret
        exact ⟨Ba.ret_int (by rw [HR.out]; rfl), HQ.out⟩
      · go_wp2_with fail
        go_ret
        exact ⟨Ba.ret_int (by rw [HR.out]; rfl), HQ.out⟩
    all_goals
      have HR := Lib.hid (V1.out rfl (by rw [HA.out]; simp [h20]))
      first | have g20 := G1.out h20 | have g20 := G2.out h20
      clear V0 V1 V2 CT HA
      go_wp2_with (first | (go_at_call_of 81 cf; refine (CA1.out _ HF0.out).mono ?_; rintro e w' ⟨rfl, rfl⟩) | (go_at_call_of 81 cl; refine (CA2.out _ HL0.out).mono ?_; rintro e w' ⟨rfl, rfl⟩) | (go_at_call 68; refine (CD.out _).mono ?_; rintro e w' ⟨rfl, rfl⟩))
      refine (CO.out _).mono ?_
      rintro e w1 ⟨rfl, b1⟩
      have BX1 := Lib.hid (BX.out.below b1)
      clear b1
      go_wp2_with fail
      refine (Ba.arg_rng _).mono ?_
      rintro e w' ⟨rfl, rfl⟩
      go_wp2_with fail
      go_ret
      exact ⟨Ba.ret_int HR.out.symm, BX1.out.bel⟩
end Go.Proofs.Ytgclhkiiaclkgaa.P3
