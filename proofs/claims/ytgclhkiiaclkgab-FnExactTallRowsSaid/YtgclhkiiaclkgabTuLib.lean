/- A heap of blocks in memory, through its interface: down. -/
import Derived.Test.YtgclhkiiaclkgabTrLib
namespace Go.Proofs.Ytgclhkiiaclkgab.Tu
set_option linter.unusedVariables false
open Go.RowKit Is Ge Qb Jr Pa To Tq Tr
open Go.Proofs.Ytgclhkiiaclkgab.Ba (inB below_then below_box)
set_option maxRecDepth 100000 in
set_option maxHeartbeats 16000000 in
theorem down (g : Nat → Int) (hb x cap r n : Nat) (hr : r ≤ 9) (hn : n < r) (w : World) (o : Nat → Nat) (h : Hp w g hb x cap r o) (hI : DnI g o n 0) (hi : Inj o n) :
    Calls Try.prog 101 #[hvI hb, .int .i64 0, .int .i64 (n : Int)] w fun e w' => (∃ b, e = .returned (.bool b)) ∧ ∃ o', Hid (Hp w' g hb x cap r o') ∧ Hid (HP g o' n ∧ (Inj o' n ∧ Same o o' n) ∧ o' n = o n) ∧ Hid (Fr2 hb x w w') := by
  have H0 := Lib.hid h
  have U0 := Lib.hid hI
  have I0 := Lib.hid (And.intro (And.intro hi (same_refl (o := o) (r := n))) (rfl : o n = o n))
  clear h hI hi
  go_enter Try.func101, Try.ntmps101
  go_wp2_with fail
  go_loopw [7, 8, 9, 10] (fun i _ _ _ wr => ∃ (k : Nat) (o1 : Nat → Nat), k ≤ n ∧ i = .int .i64 (k : Int) ∧ Hid (Hp wr g hb x cap r o1) ∧ Hid (DnI g o1 n k) ∧ Hid ((Inj o1 n ∧ Same o o1 n) ∧ o1 n = o n) ∧ Hid (Fr2 hb x w wr)) (fun i _ _ _ _ => n - (intOf i).toNat)
  case atStart => exact ⟨0, o, Nat.zero_le _, rfl, H0, U0, (by first | exact I0 | exact Lib.hid ⟨I0.out.1, rfl⟩), Lib.hid (Fr2.refl _ _ _)⟩
  case round =>
    clear H0 U0 I0
    obtain ⟨k, o1, hk, rfl, H, U, I, B⟩ := hrel
    have k0 : (0 : Int) ≤ (k : Int) := Int.natCast_nonneg _
    by_cases c1 : n ≤ 2 * k + 1
    · have e1 : (n : Int) ≤ 2 * (k : Int) + 1 := by omega
      have HF := Lib.hid (And.intro (dn_stop U.out fun c h0 h1 h2 => by unfold par at h2; omega) I.out)
      go_wp2_with fail
      go_ret
      exact ⟨⟨_, rfl⟩, o1, H, HF, B⟩
    have e1 : ¬ (n : Int) ≤ 2 * (k : Int) + 1 := by omega
    have e2 : ¬ 2 * (k : Int) + 1 < 0 := by omega
    have z0 : wr.cell? ⟨hb, 0, none⟩ = some (.slice (some ⟨x, 0, none⟩) r cap) := cell_of_row _ _ 0 _ _ _ H.out.box
    have ml := fun f => m_less f wr hb _ z0
    by_cases c2 : 2 * k + 1 + 1 < n
    rotate_left
    have e3 : ¬ 2 * (k : Int) + 1 + 1 < (n : Int) := by omega
    clear ml z0
    go_upto_region 8 with fail
    obtain ⟨jj, hjj, hjp, hjc⟩ : ∃ jj : Nat, 2 * (k : Int) + 1 = (jj : Int) ∧ (0 < jj ∧ jj < n ∧ par jj = k) ∧ ∀ c, 0 < c → c < n → par c = k → ¬ bl g (o1 c) (o1 jj) := ⟨2 * k + 1, by omega, ⟨by omega, by omega, by unfold par; omega⟩, fun c h0 h1 h2 => by
      have : c = 2 * k + 1 := by unfold par at h2; omega
      rw [this]; exact bl_irr⟩
    rw [hjj]
    clear hjj
    have H1 := H
    have B1 := B
    generalize wr = w1 at *
    rotate_left
    have e3 : 2 * (k : Int) + 1 + 1 < (n : Int) := by omega
    have LS := Lib.hid (less wr (hb + 1) g x cap r o1 H.out.row hr (2 * k + 1 + 1) (2 * k + 1) (by omega) (by omega))
    obtain ⟨q, hq⟩ : ∃ q, @decide (bl g (o1 (2 * k + 1 + 1)) (o1 (2 * k + 1))) (Classical.propDecidable _) = q := ⟨_, rfl⟩
    rw [hq, show (((2 * k + 1 + 1 : Nat)) : Int) = 2 * (k : Int) + 1 + 1 by omega, show (((2 * k + 1 : Nat)) : Int) = 2 * (k : Int) + 1 by omega] at LS
    cases q
    have hl : ¬ bl g (o1 (2 * k + 1 + 1)) (o1 (2 * k + 1)) := @of_decide_eq_false _ (Classical.propDecidable _) hq
    clear hq
    go_wp2_with fail
    refine LS.out.mono ?_
    rintro e w1 ⟨rfl, b1⟩
    have H1 := Lib.hid (H.out.below b1)
    have B1 := Lib.hid (B.out.trans (Fr2.of_below b1))
    clear b1 ml z0 LS
    go_upto_region 8 with fail
    obtain ⟨jj, hjj, hjp, hjc⟩ : ∃ jj : Nat, 2 * (k : Int) + 1 = (jj : Int) ∧ (0 < jj ∧ jj < n ∧ par jj = k) ∧ ∀ c, 0 < c → c < n → par c = k → ¬ bl g (o1 c) (o1 jj) := ⟨2 * k + 1, by omega, ⟨by omega, by omega, by unfold par; omega⟩, fun c h0 h1 h2 => by
      have : c = 2 * k + 1 ∨ c = 2 * k + 1 + 1 := by unfold par at h2; omega
      rcases this with e | e
      · rw [e]; exact bl_irr
      · rw [e]; exact hl⟩
    rw [hjj]
    clear hjj
    rotate_left
    have hl : bl g (o1 (2 * k + 1 + 1)) (o1 (2 * k + 1)) := @of_decide_eq_true _ (Classical.propDecidable _) hq
    clear hq
    go_wp2_with fail
    refine LS.out.mono ?_
    rintro e w1 ⟨rfl, b1⟩
    have H1 := Lib.hid (H.out.below b1)
    have B1 := Lib.hid (B.out.trans (Fr2.of_below b1))
    clear b1 ml z0 LS
    go_upto_region 8 with fail
    obtain ⟨jj, hjj, hjp, hjc⟩ : ∃ jj : Nat, 2 * (k : Int) + 1 + 1 = (jj : Int) ∧ (0 < jj ∧ jj < n ∧ par jj = k) ∧ ∀ c, 0 < c → c < n → par c = k → ¬ bl g (o1 c) (o1 jj) := ⟨2 * k + 1 + 1, by omega, ⟨by omega, by omega, by unfold par; omega⟩, fun c h0 h1 h2 => by
      have : c = 2 * k + 1 ∨ c = 2 * k + 1 + 1 := by unfold par at h2; omega
      rcases this with e | e
      · rw [e]; exact bl_asymm hl
      · rw [e]; exact bl_irr⟩
    rw [hjj]
    clear hjj
    all_goals
      try clear e1
      try clear e2
      try clear e3
      obtain ⟨hj0, hjn, hjp⟩ := hjp
      have hkj : k < jj := by have := par_lt hj0; omega
      have z0 : w1.cell? ⟨hb, 0, none⟩ = some (.slice (some ⟨x, 0, none⟩) r cap) := cell_of_row _ _ 0 _ _ _ H1.out.box
      have ml := fun f => m_less f w1 hb _ z0
      have LS := Lib.hid (less w1 (hb + 1) g x cap r o1 H1.out.row hr jj k (by omega) (by omega))
      obtain ⟨q, hq⟩ : ∃ q, @decide (bl g (o1 jj) (o1 k)) (Classical.propDecidable _) = q := ⟨_, rfl⟩
      rw [hq] at LS
      cases q
      · have hl2 : ¬ bl g (o1 jj) (o1 k) := @of_decide_eq_false _ (Classical.propDecidable _) hq
        have HF := Lib.hid (And.intro (dn_stop U.out fun c h0 h1 h2 => bl_neg (hjc c h0 h1 h2) hl2) I.out)
        clear hq
        go_wp2_with fail
        try (rw [ml]; simp only [Result.andThen]; go_wp2_with fail)
        refine LS.out.mono ?_
        rintro e w2 ⟨rfl, b2⟩
        have H2 := Lib.hid (H1.out.below b2)
        have B2 := Lib.hid (B1.out.trans (Fr2.of_below b2))
        clear b2 ml z0 LS
        go_wp2_with fail
        go_ret
        exact ⟨⟨_, rfl⟩, o1, H2, HF, B2⟩
      · have hl2 : bl g (o1 jj) (o1 k) := @of_decide_eq_true _ (Classical.propDecidable _) hq
        clear hq
        go_wp2_with fail
        try (rw [ml]; simp only [Result.andThen]; go_wp2_with fail)
        refine LS.out.mono ?_
        rintro e w2 ⟨rfl, b2⟩
        have H2 := Lib.hid (H1.out.below b2)
        have B2 := Lib.hid (B1.out.trans (Fr2.of_below b2))
        clear b2 ml z0 LS
        have z0 : w2.cell? ⟨hb, 0, none⟩ = some (.slice (some ⟨x, 0, none⟩) r cap) := cell_of_row _ _ 0 _ _ _ H2.out.box
        have ms := fun f => m_swap f w2 hb _ z0
        have SW := Lib.hid (swap w2 (hb + 1) g x cap r o1 H2.out.row hr k jj hkj (by omega))
        go_wp2_with fail
        refine SW.out.mono ?_
        rintro e w3 ⟨rfl, r3, u3⟩
        obtain ⟨x', cap', cur, ex, hBx, hxs, _⟩ := H2.out.row.slice (by omega)
        obtain ⟨rfl, rfl⟩ : x = x' ∧ cap = cap' := by simpa using ex
        have H3 : Hid (Hp w3 g hb x cap r (sw o1 k jj)) := Lib.hid ⟨Bw.blk_but H2.out.box u3 (by omega), r3⟩
        have B3 := Lib.hid (B2.out.trans (Fr2.of_but u3))
        have U3 := Lib.hid (dn_step U.out hj0 hjn hjp hl2 hjc)
        have I3 : Hid ((Inj (sw o1 k jj) n ∧ Same o (sw o1 k jj) n) ∧ sw o1 k jj n = o n) := Lib.hid ⟨⟨sw_inj (i := k) (j := jj) (by omega) hjn I.out.1.1, I.out.1.2.sw (i := k) (j := jj) (by omega) hjn⟩, by rw [sw_o (by omega) (by omega)]; exact I.out.2⟩
        clear SW ms z0 r3 u3 H2 B2
        go_wp2_with fail
        go_roundw
        case rel => exact ⟨jj, _, by omega, rfl, H3, U3, I3, B3⟩
        case measure => simp [intOf]; omega
end Go.Proofs.Ytgclhkiiaclkgab.Tu
