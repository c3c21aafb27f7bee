/- The fewest layers between two limits: the spec's function. -/
import Derived.Test.YtpmmfalpcooenabFwtLib
namespace Go.Proofs.Ytpmmfalpcooenab.Fe
open Go.RowKit Go.Maps Ft Is Ge Qb Ly Kn Kf Bh
open Un (PairAt pair_no code_spec codeL code_ok)

theorem fc_not {n : Nat} {x : Nat → Int} {lo hi : Int} (h : codeL n x hi ≠ 0) : fc n x lo hi = codeL n x hi := by
  unfold fc codeL Ba.argE at *
  cases h1 : tv (LyP n x)
  · rfl
  · rw [h1] at h
    cases h2 : inB hi 0 1000
    · rfl
    · rw [h2] at h; simp at h
theorem fc_two {n : Nat} {x : Nat → Int} {lo hi : Int} (h : codeL n x hi = 0) (h2 : inB lo 0 hi = false) : fc n x lo hi = 2 := by
  have h1 := tv_iff.2 (code_ok h).1
  unfold fc Ba.argE
  rw [h1, h2, Bool.and_false]
  rfl
theorem fc_zero {n : Nat} {x : Nat → Int} {lo hi : Int} (h : codeL n x hi = 0) (h2 : inB lo 0 hi = true) : fc n x lo hi = 0 := by
  have h1 := tv_iff.2 (code_ok h).1
  have h3 : inB hi 0 1000 = true := by have := (code_ok h).2; simp [inB]; omega
  unfold fc Ba.argE
  rw [h1, h2, h3]
  rfl
set_option maxRecDepth 100000 in
set_option maxHeartbeats 1000000 in
theorem spec_fw (A : Option Addr) (n c : Nat) (x : Nat → Int) (lo hi : Int) (hn : n ≤ 1048576) (w : World) (hA : Nums w w.heap.size A n x) :
    Calls Try.prog 31 #[.slice A n c, .int .i64 lo, .int .i64 hi] w (PairAt (feL n x lo hi).length (bl x (feL n x lo hi)) (feC n x lo hi) w) := by
  have C := Lib.hid (code_spec A n c x hi hn w hA)
  have C2 := Lib.hid (fun w => in_any lo 0 hi w)
  have HA := Lib.hid hA
  clear hA
  by_cases h0 : codeL n x hi = 0
  · rw [h0] at C
    cases h2 : inB lo 0 hi with
    | false =>
      have hf := fc_two h0 h2
      have q1 : feL n x lo hi = [] := by unfold feL; rw [if_neg (by rw [hf]; decide)]
      have q2 : feC n x lo hi = 2 := by unfold feC; rw [if_neg (by rw [hf]; decide), hf]
      have HP : Hid (∀ w', Below w.heap.size w w' → PairAt (feL n x lo hi).length (bl x (feL n x lo hi)) (feC n x lo hi) w (.returned (.tuple #[.slice none 0 0, .int .i64 2])) w') := Lib.hid fun w' hb => by rw [q1, q2]; exact pair_no hb _
      rw [h2] at C2
      generalize PairAt _ _ _ w = Q at HP ⊢
      clear h0 h2 hf q1 q2
      go_enter Try.func31, Try.ntmps31
      go_wp2_with fail
      refine C.out.mono ?_
      rintro e w1 ⟨rfl, b1⟩
      have HF := Lib.hid (HP.out _ b1)
      clear b1
      go_wp2_with fail
      refine (C2.out _).mono ?_
      rintro e w2 ⟨rfl, rfl⟩
      go_wp2_with fail
      exact HF.out
    | true =>
      have hf := fc_zero h0 h2
      obtain ⟨hL, _, s1⟩ := code_ok h0
      obtain ⟨s2, s3⟩ := in_of h2
      obtain ⟨Lo, rfl⟩ : ∃ S : Nat, lo = S := ⟨lo.toNat, by omega⟩
      obtain ⟨Hi, rfl⟩ : ∃ S : Nat, hi = S := ⟨hi.toNat, by omega⟩
      have q1 : feL n x Lo Hi = ol (fo n x Lo Hi) := by unfold feL; rw [if_pos hf]
      have q2 : feC n x Lo Hi = if (fo n x Lo Hi).isSome then 0 else 3 := by unfold feC; rw [if_pos hf]
      have CW := Lib.hid (fun w h => within_spec A n c x hL Lo Hi (by omega) (by omega) w h)
      rw [q1, q2]
      have HP1 : Hid (∀ w', (fo n x Lo Hi).isSome = false → Below w.heap.size w w' → PairAt (ol (fo n x Lo Hi)).length (bl x (ol (fo n x Lo Hi))) (if (fo n x Lo Hi).isSome then 0 else 3) w (.returned (.tuple #[.slice none 0 0, .int .i64 3])) w') := Lib.hid fun w' h hb => by
        cases ho : fo n x Lo Hi with
        | none => exact pair_no hb _
        | some l => rw [ho] at h; cases h
      have HP2 : Hid (∀ w1 w' A' cap, (fo n x Lo Hi).isSome = true → Hid (Own w' w1.heap.size A' (ol (fo n x Lo Hi)).length (bl x (ol (fo n x Lo Hi)))) → Below w.heap.size w w1 → Below w1.heap.size w1 w' → PairAt (ol (fo n x Lo Hi)).length (bl x (ol (fo n x Lo Hi))) (if (fo n x Lo Hi).isSome then 0 else 3) w (.returned (.tuple #[.slice A' (ol (fo n x Lo Hi)).length cap, .int .i64 0])) w') := Lib.hid fun w1 w' A' cap h h3 h4 h5 => by
        rw [if_pos h]; exact own_more h3 h4 h5
      rw [h2] at C2
      generalize PairAt _ _ _ w = Q at HP1 HP2 ⊢
      clear h0 h2 hf q1 q2
      generalize fo n x (Lo : Int) (Hi : Int) = o at CW HP1 HP2
      go_enter Try.func31, Try.ntmps31
      go_wp2_with fail
      refine C.out.mono ?_
      rintro e w1 ⟨rfl, b1⟩
      have HB1 := Lib.hid b1
      have HA1 := Lib.hid ((HA.out.below b1 (Nat.le_refl _)).more b1.size)
      clear b1 C HA
      go_wp2_with fail
      refine (C2.out _).mono ?_
      rintro e w2 ⟨rfl, rfl⟩
      go_wp2_with fail
      refine (CW.out _ HA1.out).mono ?_
      rintro e w3 ⟨A3, cap3, rfl, ho, hb⟩
      have HF1 := Lib.hid (fun h => HP1.out w3 h (below_then HB1.out hb.out))
      have HF2 := Lib.hid (fun h => HP2.out _ w3 A3 cap3 h ho HB1.out hb.out)
      clear ho hb CW HP1 HP2
      generalize o.isSome = r at HF1 HF2 ⊢
      cases r
      · have HF := Lib.hid (HF1.out (by first | rfl | trivial))
        go_wp2_with fail
        exact HF.out
      · have HF := Lib.hid (HF2.out (by first | rfl | trivial))
        go_wp2_with fail
        exact HF.out
  · have hf := fc_not (lo := lo) h0
    have q1 : feL n x lo hi = [] := by unfold feL; rw [if_neg (by rw [hf]; exact h0)]
    have q2 : feC n x lo hi = codeL n x hi := by unfold feC; rw [if_neg (by rw [hf]; exact h0), hf]
    have HP : Hid (∀ w', Below w.heap.size w w' → PairAt (feL n x lo hi).length (bl x (feL n x lo hi)) (feC n x lo hi) w (.returned (.tuple #[.slice none 0 0, .int .i64 (codeL n x hi)])) w') := Lib.hid fun w' hb => by rw [q1, q2]; exact pair_no hb _
    have hne : (codeL n x hi != 0) = true := by simpa using h0
    have hne2 : (codeL n x hi == 0) = false := by simpa using h0
    generalize PairAt _ _ _ w = Q at HP ⊢
    generalize codeL n x hi = r at C HP hne hne2
    clear h0 hf q1 q2
    go_enter Try.func31, Try.ntmps31
    go_wp2_with fail
    refine C.out.mono ?_
    rintro e w1 ⟨rfl, b1⟩
    have HF := Lib.hid (HP.out _ b1)
    clear b1
    go_wp2_with fail
    exact HF.out
end Go.Proofs.Ytpmmfalpcooenab.Fe
