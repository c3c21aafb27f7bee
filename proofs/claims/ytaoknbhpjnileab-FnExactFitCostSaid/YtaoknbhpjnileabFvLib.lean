/- Whether a fit is valid: the program's. -/
import Derived.Test.YtaoknbhpjnileabFiLib
import Derived.Test.YtaoknbhpjnileabAwLib
namespace Go.Proofs.Ytaoknbhpjnileab.Fi
open Go.RowKit Ft Is Ge Qb

theorem within_any (n a b : Int) (w : World) : Calls Try.prog 72 #[.int .i64 n, .int .i64 a, .int .i64 b] w fun e w' => e = .returned (.bool (inB n a b)) ∧ w = w' := by
  by_cases h1 : a ≤ n <;> by_cases h2 : n ≤ b
  all_goals
    go_enter Try.func72, Try.ntmps72
    go_wp2
    go_ret
    exact ⟨by simp [inB, h1, h2], rfl⟩
set_option maxRecDepth 100000 in
set_option maxHeartbeats 1000000 in
theorem impl_fit (mn mx gi : Int) (A : Option Addr) (n c : Nat) (f : Nat → Int) (hn : n ≤ 1048576) (w : World) (hA : Nums w w.heap.size A n f) :
    Calls Try.prog 106 #[fitV mn mx gi A n c] w (Tells (FitOk mn mx gi n f) w) := by
  have K := heap_alloc_new w (.cells #[.int .i64 mn, .int .i64 mx, .int .i64 gi, .slice A n c] 37)
  have HB := Lib.hid (below_box w (.cells #[.int .i64 mn, .int .i64 mx, .int .i64 gi, .slice A n c] 37))
  have HA := Lib.hid ((hA.below (below_box w (.cells #[.int .i64 mn, .int .i64 mx, .int .i64 gi, .slice A n c] 37)) (Nat.le_refl _)).more (B' := (w.alloc (.cells #[.int .i64 mn, .int .i64 mx, .int .i64 gi, .slice A n c] 37)).heap.size) (by simp))
  have H1 : Hid (inB mx 0 500 = false → ¬ FitOk mn mx gi n f) := Lib.hid fun h e => by rw [e.1.1] at h; cases h
  have H2 : Hid (inB mn 0 mx = false → ¬ FitOk mn mx gi n f) := Lib.hid fun h e => by rw [e.1.2.1] at h; cases h
  have H3 : Hid (inB gi 0 500 = false → ¬ FitOk mn mx gi n f) := Lib.hid fun h e => by rw [e.1.2.2.1] at h; cases h
  have H4 : Hid (¬ n = 4 → ¬ FitOk mn mx gi n f) := Lib.hid fun h e => h e.1.2.2.2
  have HN : Hid (∀ k, k < n → inB (f k) 0 100 = false → ¬ FitOk mn mx gi n f) := Lib.hid fun k hk h e => by rw [e.2 k hk] at h; cases h
  have HY : Hid (inB mx 0 500 = true → inB mn 0 mx = true → inB gi 0 500 = true → n = 4 → (∀ k, k < n → inB (f k) 0 100 = true) → FitOk mn mx gi n f) := Lib.hid fun h1 h2 h3 h4 h => ⟨⟨h1, h2, h3, h4⟩, h⟩
  generalize FitOk mn mx gi n f = P at H1 H2 H3 H4 HN HY ⊢
  clear hA
  unfold fitV
  go_enter Try.func106, Try.ntmps106
  go_wp2_with fail
  generalize w.alloc (.cells #[.int .i64 mn, .int .i64 mx, .int .i64 gi, .slice A n c] 37) = w0 at K HB HA ⊢
  have KW := Lib.hid K
  obtain ⟨x0, x1, x2, x3⟩ := blk4 K
  have hz := lt_of_heap K
  clear K
  have C1 := Lib.hid (fun w => within_any mx 0 500 w)
  have C2 := Lib.hid (fun w => within_any mn 0 mx w)
  have C3 := Lib.hid (fun w => within_any gi 0 500 w)
  have HW : Hid (∀ q, Below w.heap.size w (w0.drewN q)) := Lib.hid (fun q => ⟨HB.out.os, HB.out.tape, HB.out.output, HB.out.size, HB.out.block⟩)
  generalize inB mx 0 500 = r1 at H1 HY C1
  generalize inB mn 0 mx = r2 at H2 HY C2
  generalize inB gi 0 500 = r3 at H3 HY C3
  have R : r1 = false ∨ (r1 = true ∧ r2 = false) ∨ (r1 = true ∧ r2 = true ∧ r3 = false) ∨ (r1 = true ∧ r2 = true ∧ r3 = true) := by cases r1 <;> cases r2 <;> cases r3 <;> simp
  rcases R with rfl | ⟨rfl, rfl⟩ | ⟨rfl, rfl, rfl⟩ | ⟨rfl, rfl, rfl⟩
  · have HF := Lib.hid (H1.out rfl)
    go_wp2_with (first | (go_at_call_of 72 mn; refine (C2.out _).mono ?_; rintro e w' ⟨rfl, rfl⟩) | (go_at_call_of 72 mx; refine (C1.out _).mono ?_; rintro e w' ⟨rfl, rfl⟩) | (go_at_call_of 72 gi; refine (C3.out _).mono ?_; rintro e w' ⟨rfl, rfl⟩))
    go_ret
    exact tells_no HF.out HB.out
  · have HF := Lib.hid (H2.out rfl)
    go_wp2_with (first | (go_at_call_of 72 mn; refine (C2.out _).mono ?_; rintro e w' ⟨rfl, rfl⟩) | (go_at_call_of 72 mx; refine (C1.out _).mono ?_; rintro e w' ⟨rfl, rfl⟩) | (go_at_call_of 72 gi; refine (C3.out _).mono ?_; rintro e w' ⟨rfl, rfl⟩))
    go_ret
    exact tells_no HF.out HB.out
  · have HF := Lib.hid (H3.out rfl)
    go_wp2_with (first | (go_at_call_of 72 mn; refine (C2.out _).mono ?_; rintro e w' ⟨rfl, rfl⟩) | (go_at_call_of 72 mx; refine (C1.out _).mono ?_; rintro e w' ⟨rfl, rfl⟩) | (go_at_call_of 72 gi; refine (C3.out _).mono ?_; rintro e w' ⟨rfl, rfl⟩))
    go_ret
    exact tells_no HF.out HB.out
  · by_cases h4 : n = 4
    · subst h4
      have HT : Hid (tv (Ly.Al 0 100 4 f) = true ↔ P) := Lib.hid ⟨fun h => HY.out rfl rfl rfl rfl (tv_iff.1 h), fun h => by
        refine Classical.byContradiction fun q => ?_
        have hq : ¬ Ly.Al 0 100 4 f := fun e => q (tv_yes e)
        refine hq fun k hk => ?_
        cases e : inB (f k) 0 100
        · exact absurd h (HN.out k hk e)
        · rfl⟩
      have C := Lib.hid (Ly.are_any 0 100 A 4 c f (by omega) w0 HA.out)
      generalize tv (Ly.Al 0 100 4 f) = r at C HT
      clear H1 H2 H3 H4 HY HN
      go_wp2_with (first | (go_at_call_of 72 mn; refine (C2.out _).mono ?_; rintro e w' ⟨rfl, rfl⟩) | (go_at_call_of 72 mx; refine (C1.out _).mono ?_; rintro e w' ⟨rfl, rfl⟩) | (go_at_call_of 72 gi; refine (C3.out _).mono ?_; rintro e w' ⟨rfl, rfl⟩))
      refine C.out.mono ?_
      rintro e w' ⟨rfl, rfl⟩
      go_wp2_with fail
      go_ret
      exact ⟨r, rfl, HT.out, HB.out⟩
    · have HF := Lib.hid (H4.out h4)
      have hne : ((n : Int) == 4) = false := by simp; omega
      clear h4 H4 HN HY H1 H2 H3
      go_wp2_with (first | (go_at_call_of 72 mn; refine (C2.out _).mono ?_; rintro e w' ⟨rfl, rfl⟩) | (go_at_call_of 72 mx; refine (C1.out _).mono ?_; rintro e w' ⟨rfl, rfl⟩) | (go_at_call_of 72 gi; refine (C3.out _).mono ?_; rintro e w' ⟨rfl, rfl⟩))
      go_ret
      exact tells_no HF.out HB.out
end Go.Proofs.Ytaoknbhpjnileab.Fi
