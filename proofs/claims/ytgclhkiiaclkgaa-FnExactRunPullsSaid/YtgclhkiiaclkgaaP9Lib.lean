/- Leathers: the program's RunPulls. -/
import Derived.Test.YtgclhkiiaclkgaaP4Lib
import Derived.Test.YtgclhkiiaclkgaaJfLib
import Derived.Test.YtgclhkiiaclkgaaOwLib
namespace Go.Proofs.Ytgclhkiiaclkgaa.P9
set_option linter.unusedVariables false
open Go.RowKit Is Ge Qb Ja Jb Jc Jf P1 P2 P3 P4
open Go.Proofs.Ytgclhkiiaclkgaa.Ba (inB below_then below_box blk1 blk2)

/-- The program's code of pulls is the spec's, but for lengths that are too great. -/
theorem rp_pe (a c s m d n : Int) (k : Nat) (f : Nat → Int) :
    (¬ peC a c s m d k f 1 (fun _ => n) = 0 → rpC a c s m d n k f = peC a c s m d k f 1 (fun _ => n)) ∧ (peC a c s m d k f 1 (fun _ => n) = 0 → leB a c s m = true ∧ (0 ≤ d ∧ d ≤ 4) ∧ k ≤ 20 ∧ (∀ j, j < k → 0 ≤ f j ∧ f j ≤ 1000) ∧ (1 ≤ n ∧ n ≤ 10000) ∧ (LnP a c s d n k f → rpC a c s m d n k f = 0) ∧ (¬ LnP a c s d n k f → rpC a c s m d n k f = 5)) := by
  have hF : tv (Ly.Al 0 1000 k f) = true ↔ FrP k f := tv_iff
  have hT : anB a c m d k f = false ↔ TiP a c m d k f := by
    constructor
    · intro h j hj
      exact an_no h hj
    · intro h
      refine tv_no fun ⟨j, hj, q⟩ => ?_
      have := h j hj
      omega
  have hr : rgB d k f 1 (fun _ => n) = (dirB d && (decide (k ≤ 20) && tv (Ly.Al 0 1000 k f)) && lenB n) := by
    unfold rgB lenB
    rw [al_one 1 10000 n _ rfl]
  by_cases h1 : leB a c s m = false
  · have e1 : peC a c s m d k f 1 (fun _ => n) = 1 := if_pos h1
    have e2 : rpC a c s m d n k f = 1 := by unfold rpC; rw [if_pos h1]
    rw [e1]
    exact ⟨fun _ => e2, fun h => by omega⟩
  by_cases h2 : rgB d k f 1 (fun _ => n) = false
  · have e1 : peC a c s m d k f 1 (fun _ => n) = 2 := by unfold peC; rw [if_neg h1, if_pos h2]
    have e2 : rpC a c s m d n k f = 2 := by
      unfold rpC
      rw [if_neg h1]
      by_cases c1 : FrP k f
      · rw [if_neg (by simpa using c1), if_pos]
        rw [hr, hF.2 c1] at h2
        cases q1 : dirB d <;> cases q2 : lenB n <;> by_cases q3 : k ≤ 20 <;> simp [q1, q2, q3] at h2 ⊢
      · rw [if_pos c1]
    rw [e1]
    exact ⟨fun _ => e2, fun h => by omega⟩
  have h2' : rgB d k f 1 (fun _ => n) = true := by simpa using h2
  obtain ⟨i1, i2, i3, i4⟩ := rg_in h2'
  have c1 : FrP k f := by
    rw [hr] at h2'
    simp only [Bool.and_eq_true, decide_eq_true_eq] at h2'
    exact hF.1 h2'.1.2.2
  have c2 : ¬ (dirB d && (lenB n && decide (k ≤ 20))) = false := by
    rw [hr] at h2'
    simp only [Bool.and_eq_true, decide_eq_true_eq] at h2'
    simp [h2'.1.1, h2'.2, h2'.1.2.1]
  by_cases h3 : anB a c m d k f = true
  · have e1 : peC a c s m d k f 1 (fun _ => n) = 10 := by unfold peC; rw [if_neg h1, if_neg h2, if_pos h3]
    have c3 : ¬ TiP a c m d k f := fun t => by rw [hT.2 t] at h3; cases h3
    have e2 : rpC a c s m d n k f = 10 := by unfold rpC; rw [if_neg h1, if_neg (by simpa using c1), if_neg c2, if_pos c3]
    rw [e1]
    exact ⟨fun _ => e2, fun h => by omega⟩
  · have e1 : peC a c s m d k f 1 (fun _ => n) = 0 := by unfold peC; rw [if_neg h1, if_neg h2, if_neg h3]
    have c3 : TiP a c m d k f := hT.1 (by simpa using h3)
    rw [e1]
    refine ⟨fun h => absurd rfl h, fun _ => ⟨by simpa using h1, i1, i2, i3, i4 0 (by omega), fun l => ?_, fun l => ?_⟩⟩
    · unfold rpC; rw [if_neg h1, if_neg (by simpa using c1), if_neg c2, if_neg (by simpa using c3), if_neg (by simpa using l)]
    · unfold rpC; rw [if_neg h1, if_neg (by simpa using c1), if_neg c2, if_neg (by simpa using c3), if_pos l]
theorem pull_row (a c s m d n : Int) (A : Option Addr) (k fc : Nat) (f : Nat → Int) (hk : k ≤ 1048576) (w : World) (h : Nums w w.heap.size A k f) : Calls Try.prog 52 #[coV a c s m d, .slice A k fc, .slice (some ⟨w.heap.size, 0, none⟩) 1 1] (w.alloc (.cells #[.int .i64 n] 2)) fun e w' => e = .returned (.int .i64 (peC a c s m d k f 1 (fun _ => n))) ∧ Below w.heap.size w w' := by
  refine (pull_any a c s m d A k fc f _ 1 1 (fun _ => n) hk (by omega) _ ((h.below (below_box _ _) (Nat.le_refl _)).more (below_box _ _).size) (nums_one w n)).mono ?_
  rintro e w' ⟨rfl, b⟩
  exact ⟨rfl, below_then (below_box _ _) b⟩
set_option maxRecDepth 100000 in
set_option maxHeartbeats 4000000 in
theorem impl_rp (a c s m d n : Int) (A : Option Addr) (k fc : Nat) (f : Nat → Int) (hk : k ≤ 1048576) (w : World) (h : Nums w w.heap.size A k f) : Calls Try.prog 27 #[leV a c s m, .int .i64 d, .int .i64 n, .slice A k fc] w (RpAt a c s m d n k f w) := by
  have HH := Lib.hid h
  have BX := Lib.hid (Bx2.of w (leO a c s m) (coO a c s m d))
  obtain ⟨v1, v2⟩ := rp_pe a c s m d n k f
  have CC := Lib.hid (fun w h => pull_row a c s m d n A k fc f hk w h)
  have V0 : Hid (¬ peC a c s m d k f 1 (fun _ => n) = 0 → ∀ W, Below w.heap.size w W → RpAt a c s m d n k f w (.returned (.tuple #[.slice none 0 0, .int .i64 (peC a c s m d k f 1 (fun _ => n))])) W) := Lib.hid fun h W hb => rp_no (v1 h) h hb
  have V1 := Lib.hid v2
  have V3 : Hid (peC a c s m d k f 1 (fun _ => n) = 0 → ∀ j, j < k → 10000 < ln a c s d n f (j + 1) → ∀ W, Below w.heap.size w W → RpAt a c s m d n k f w (.returned (.tuple #[.slice none 0 0, .int .i64 5])) W) := Lib.hid fun h j hj hx W hb => rp_no ((v2 h).2.2.2.2.2.2 fun l => by have := l j hj; omega) (by omega) hb
  have V4 : Hid (peC a c s m d k f 1 (fun _ => n) = 0 → (∀ j, j < k → ln a c s d n f (j + 1) ≤ 10000) → ∀ (w0 W : World) (v : Value), W.ownsRow w0.heap.size 2 1 v k (upto (fun j => ln a c s d n f (j + 1)) k) → Below w.heap.size w w0 → Below w0.heap.size w0 W → RpAt a c s m d n k f w (.returned (.tuple #[v, .int .i64 0])) W) := Lib.hid fun h hl w0 W v hv h0 hb => rp_ok ((v2 h).2.2.2.2.2.1 hl) hv h0 hb
  have CK := Lib.hid (fun (h1 : leB a c s m = true) (hd : 0 ≤ d ∧ d ≤ 4) (x : Int) (hx : 0 ≤ x ∧ x ≤ 1000) (y : Int) (hy : 0 ≤ y ∧ y ≤ 10000) w => ikeeps a c s m d y x (le_in h1).1 (le_in h1).2.1 (le_in h1).2.2.1 hd hy hx w)
  have AN := Lib.hid (fun (h1 : leB a c s m = true) (hd : 0 ≤ d ∧ d ≤ 4) (x : Int) (hx : 0 ≤ x ∧ x ≤ 1000) (y : Int) (hy : 0 ≤ y) => af_nonneg (le_in h1).1 (le_in h1).2.1 hd hx (le_in h1).2.2.1 hy)
  have L0 : Hid (ln a c s d n f 0 = n) := Lib.hid rfl
  have LS : Hid (∀ j, ln a c s d n f (j + 1) = af a c s d (ln a c s d n f j) (f j)) := Lib.hid fun j => rfl
  obtain ⟨i0, hi0, hz0, hz1, hz2⟩ := info_parts info_int
  have HIn := Lib.hid (And.intro hi0 (And.intro hz0 (And.intro hz1 hz2)))
  clear h hi0 hz0 hz1 hz2 v1 v2
  generalize RpAt a c s m d n k f w = Q at V0 V3 V4 ⊢
  generalize peC a c s m d k f 1 (fun _ => n) = C at CC V0 V1 V3 V4
  generalize ln a c s d n f = L at L0 LS V3 V4
  obtain ⟨AF, hAF⟩ : ∃ AF : Int → Int → Int, ∀ y x, af a c s d y x = AF y x := ⟨_, fun _ _ => rfl⟩
  simp only [hAF] at CK AN LS
  clear hAF
  go_enter Try.func27, Try.ntmps27
  go_upto_region 2 with fail
  generalize hw9 : World.alloc _ _ = w0 at BX ⊢
  clear hw9
  have HH0 := Lib.hid ((HH.out.below BX.out.bel (Nat.le_refl _)).more BX.out.bel.size)
  obtain ⟨z0, z1, z2, z3, z4⟩ := blk5 BX.out.frc
  go_wp2_with fail
  refine (CC.out _ HH0.out).mono ?_
  rintro e w1 ⟨rfl, b1⟩
  have BX1 := Lib.hid (BX.out.below b1)
  have HH1 := Lib.hid ((HH0.out.below b1 (Nat.le_refl _)).more b1.size)
  clear b1 BX CC HH HH0 z0 z1 z2 z3 z4
  by_cases h0 : C = 0
  rotate_left
  · have hne : (C != 0) = true := by simpa using h0
    have HF := Lib.hid (V0.out h0 _ BX1.out.bel)
    clear V0 V1 V3 V4 CK AN L0 LS
    go_wp2_with fail
    exact HF.out
  subst h0
  obtain ⟨q1, q2, q3, q4, q5, _, _⟩ := V1.out rfl
  have CK1 := Lib.hid (fun j hj => CK.out q1 q2 (f j) (q4 j hj))
  have AN1 := Lib.hid (fun j hj => AN.out q1 q2 (f j) (q4 j hj))
  have T3 := Lib.hid (V3.out rfl)
  have T4 := Lib.hid (V4.out rfl)
  have HMK := Lib.hid (fun w => Ow.make_row k hk w)
  have hn := q5
  clear V0 V1 V3 V4 CK AN q1 q2 q4 q5
  have B0 := Lib.hid (below_box w1 (.cells (Go.madeCells #[Value.int .i64 0] k) 2))
  have R0 := Lib.hid (Ow.row_start w1 k hk (fun r => L (r + 1)))
  have hkm := HMK.out w1
  have k0 : (0 : Int) ≤ (k : Int) := Int.natCast_nonneg _
  go_wp2_with fail
  clear hkm HMK
  go_loopw [2, 12, 14, 31] (fun y o _ u wr => ∃ (r : Nat) (v : Value), r ≤ k ∧ y = .int .i64 (L r) ∧ v = o ∧ u = .int .i64 (r : Int) ∧ Hid (Below w1.heap.size w1 wr) ∧ Hid (wr.ownsRow w1.heap.size 2 1 v r (upto (fun r => L (r + 1)) r)) ∧ Hid ((0 ≤ L r ∧ L r ≤ 10000) ∧ ∀ t, t < r → L (t + 1) ≤ 10000)) (fun _ _ _ u _ => k - (intOf u).toNat)
  case atStart => exact ⟨0, _, Nat.zero_le _, by rw [L0.out], rfl, rfl, B0, R0, Lib.hid ⟨by rw [L0.out]; omega, fun t ht => by omega⟩⟩
  case round =>
    obtain ⟨r, v, hr, rfl, rfl, rfl, HW, HO, HL⟩ := hrel
    have i0' : (0 : Int) ≤ (r : Int) := Int.natCast_nonneg _
    have HBx := Lib.hid (BX1.out.below HW.out)
    by_cases hrl : r < k
    · have i1 : (r : Int) < (k : Int) := by omega
      obtain ⟨b, off, rfl, hb, hc⟩ := HH1.out.below HW.out (Nat.le_refl _) (by omega)
      have x0 := hc r hrl
      have C0 := Lib.hid (CK1.out r hrl (L r) HL.out.1)
      have hny := AN1.out r hrl (L r) HL.out.1.1
      have HLS := Lib.hid (LS.out r)
      have T3r := Lib.hid (T3.out r hrl)
      have HS : Hid (0 ≤ L (r + 1) → L (r + 1) ≤ 10000 → (0 ≤ L (r + 1) ∧ L (r + 1) ≤ 10000) ∧ ∀ t, t < r + 1 → L (t + 1) ≤ 10000) := Lib.hid fun h0 h => ⟨⟨h0, h⟩, fun t ht => by
        by_cases e : t = r
        · subst e; exact h
        · exact HL.out.2 t (by omega)⟩
      have HU : Hid (upto (fun r => L (r + 1)) (r + 1) = upto (fun r => L (r + 1)) r ++ [.int .i64 (L (r + 1))]) := Lib.hid (upto_snoc _ r)
      rw [← HLS.out] at C0 hny
      have hr1 : r + 1 ≤ k := by omega
      obtain ⟨z0, z1, z2, z3, z4⟩ := blk5 HBx.out.frc
      clear hc CK1 AN1 LS L0 T3 T4 HL HLS
      generalize hl1 : L (r + 1) = l1 at C0 hny T3r HS HU
      generalize L r = l0 at *
      generalize f r = y at *
      go_wp2_with fail
      refine (C0.out _).mono ?_
      rintro e w4 ⟨rfl, b4⟩
      have HW2 := Lib.hid (below_then HW.out b4)
      have HO2 := Lib.hid (row_below HO.out b4)
      clear b4 C0 HW HO HBx z0 z1 z2 z3 z4 x0 hb
      by_cases hx4 : 10000 < l1
      · have HF := Lib.hid (T3r.out hx4 _ (below_then BX1.out.bel HW2.out))
        clear T3r HS HU
        go_wp2_with fail
        exact HF.out
      · have HS1 := Lib.hid (HS.out hny (by omega))
        have hsz := HW2.out.size
        generalize hcl : upto (fun r => L (r + 1)) r = cl at HO2 HU
        clear T3r HS
        go_wp2_with (at_builtin; refine wpList_append_own _ rfl _ _ 38 rfl w1.heap.size 2 i0 _ 1 8 Try.underlying38 HIn.out.1 HIn.out.2.1 HIn.out.2.2.1 HIn.out.2.2.2 rfl (by decide) _ _ _ rfl (HO2.out.alloc _) ⟨w4.heap.size, 0, none⟩ 1 1 [.int .i64 l1] rfl rfl ?c1 ?c2 ?c3 ?c4 ?c5 ?_)
        try case c1 => exact Ow.cell_new _ _ _
        try case c2 => simp [Value.oneCell']
        try case c3 => unfold maxLen; omega
        try case c4 => omega
        try case c5 => first | omega | (simp <;> omega)
        intro v' w6 hown2 hgrow _
        have HQ6 := Lib.hid ((HW2.out.alloc hsz _).grown hgrow (by simp; omega) fun g hg => (HO2.out.lt g hg).1)
        have HO6 : Hid (w6.ownsRow w1.heap.size 2 1 v' (r + 1) (upto (fun r => L (r + 1)) (r + 1))) := Lib.hid (by rw [HU.out]; exact hown2)
        clear hown2 hgrow
        go_wp2_with fail
        go_roundw
        case rel => exact ⟨r + 1, _, hr1, by rw [hl1], rfl, by go_num, HQ6, HO6, Lib.hid (by rw [hl1]; exact HS1.out)⟩
        case measure => simp [intOf]; omega
    · obtain rfl : r = k := by omega
      have i1 : ¬ (r : Int) < (r : Int) := by omega
      have HZ := Lib.hid (T4.out HL.out.2 w1 wr v HO.out BX1.out.bel HW.out)
      clear T3 T4 CK1 AN1 LS L0 HL
      generalize L r = l0 at *
      go_wp2_with fail
      exact HZ.out
end Go.Proofs.Ytgclhkiiaclkgaa.P9
