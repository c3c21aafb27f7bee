/- The fewest layers with a sum: the spec's. -/
import Derived.Test.YtpmmfalpcooenabFlsLib
namespace Go.Proofs.Ytpmmfalpcooenab.Fe
open Go.RowKit Go.Maps Ft Is Ge Qb Ly Kn Kf Bh
open Un (PairAt pair_no code_spec codeL code_ok)

theorem fc_same (n : Nat) (x : Nat → Int) (s : Int) : fc n x s s = codeL n x s := by
  unfold fc codeL
  congr 1
  cases h : inB s 0 1000
  · rfl
  · have := in_of h
    have e : inB s 0 s = true := by simp [inB]; omega
    rw [e]; rfl
theorem fo_same (n : Nat) (x : Nat → Int) (s : Int) : fo n x s s = B x w1 n 0 s := by
  unfold fo
  rw [Int.sub_self]
theorem own_more {m : Nat} {d : Nat → Int} {c : Int} {w w1 w' : World} {A : Option Addr} {cap : Nat} (h : Hid (Own w' w1.heap.size A m d)) (h1 : Below w.heap.size w w1) (h2 : Below w1.heap.size w1 w') : PairAt m d c w (.returned (.tuple #[.slice A m cap, .int .i64 c])) w' :=
  ⟨A, cap, rfl, Lib.hid fun hp => by
    obtain ⟨b, off, e, q1, q2, q3, q4⟩ := h.out hp
    exact ⟨b, off, e, by have := h1.size; omega, q2, q3, q4⟩, below_then h1 h2⟩
set_option maxRecDepth 100000 in
set_option maxHeartbeats 1000000 in
theorem spec_fl (A : Option Addr) (n c : Nat) (x : Nat → Int) (s : Int) (hn : n ≤ 1048576) (w : World) (hA : Nums w w.heap.size A n x) :
    Calls Try.prog 27 #[.slice A n c, .int .i64 s] w (PairAt (feL n x s s).length (bl x (feL n x s s)) (feC n x s s) w) := by
  have C := Lib.hid (code_spec A n c x s hn w hA)
  have HA := Lib.hid hA
  clear hA
  by_cases h0 : codeL n x s = 0
  · obtain ⟨hL, s0, s1⟩ := code_ok h0
    obtain ⟨S, rfl⟩ : ∃ S : Nat, s = S := ⟨s.toNat, by omega⟩
    have CF := Lib.hid (fun w h => few_any A n c x S hL (by omega) w h)
    rw [h0] at C
    have hf : fc n x S S = 0 := (fc_same n x S).trans h0
    cases ho : B x w1 n 0 (S : Int) with
    | none =>
      have h1 : feL n x S S = [] := by unfold feL; rw [if_pos hf, fo_same, ho]; rfl
      have h2 : feC n x S S = 3 := by unfold feC; rw [if_pos hf, fo_same, ho]; rfl
      have hT : FT x n S < 0 := (F_neg_iff (lay1 hL)).2 ho
      have HP : Hid (∀ w', Below w.heap.size w w' → PairAt (feL n x S S).length (bl x (feL n x S S)) (feC n x S S) w (.returned (.tuple #[.slice none 0 0, .int .i64 3])) w') := Lib.hid fun w' hb => by rw [h1, h2]; exact pair_no hb _
      generalize PairAt _ _ _ w = Q at HP ⊢
      generalize FT x n = Tt at hT CF
      clear h0 hf ho h1 h2
      go_enter Try.func27, Try.ntmps27
      go_wp2_with fail
      refine C.out.mono ?_
      rintro e w1 ⟨rfl, b1⟩
      have HB1 := Lib.hid b1
      have HA1 := Lib.hid ((HA.out.below b1 (Nat.le_refl _)).more b1.size)
      clear b1 C HA
      go_wp2_with fail
      refine (CF.out _ HA1.out).mono ?_
      rintro e w2 ⟨A2, cap, rfl, ho, b2⟩
      have HB2 := Lib.hid (below_then HB1.out b2)
      obtain ⟨g, off, rfl, _, _, hc, _⟩ := ho.out (by omega)
      have t0 := hc S (by omega)
      have e0 : (0 : Int) ≤ (S : Int) := by omega
      have e1 : (S : Int) < ((S + 1 : Nat) : Int) := by omega
      generalize Tt S = t at t0 hT
      clear ho b2 hc CF
      have HF := Lib.hid (HP.out _ HB2.out)
      go_wp2_with fail
      exact HF.out
    | some l =>
      have h1 : feL n x S S = l := by unfold feL; rw [if_pos hf, fo_same, ho]; rfl
      have h2 : feC n x S S = 0 := by unfold feC; rw [if_pos hf, fo_same, ho]; rfl
      have hT : ¬ FT x n S < 0 := fun q => by have := (F_neg_iff (lay1 hL)).1 q; rw [ho] at this; cases this
      have CG := Lib.hid (fun A2 c2 w hA hF => first_any A A2 n c c2 S x hL (by omega) S (Nat.le_refl _) l ho w hA hF)
      have HP : Hid (∀ w1 w' A' cap, Hid (Own w' w1.heap.size A' l.length (bl x l)) → Below w.heap.size w w1 → Below w1.heap.size w1 w' → PairAt (feL n x S S).length (bl x (feL n x S S)) (feC n x S S) w (.returned (.tuple #[.slice A' l.length cap, .int .i64 0])) w') := Lib.hid fun w1 w' A' cap h3 h4 h5 => by rw [h1, h2]; exact own_more h3 h4 h5
      generalize PairAt _ _ _ w = Q at HP ⊢
      generalize FT x n = Tt at hT CF CG
      clear h0 hf ho h1 h2
      go_enter Try.func27, Try.ntmps27
      go_wp2_with fail
      refine C.out.mono ?_
      rintro e w1 ⟨rfl, b1⟩
      have HB1 := Lib.hid b1
      have HA1 := Lib.hid ((HA.out.below b1 (Nat.le_refl _)).more b1.size)
      clear b1 C HA
      go_wp2_with fail
      refine (CF.out _ HA1.out).mono ?_
      rintro e w2 ⟨A2, cap, rfl, ho, b2⟩
      have HB2 := Lib.hid (below_then HB1.out b2)
      have HA2 := Lib.hid ((HA1.out.below b2 (Nat.le_refl _)).more b2.size)
      have HN2 := Lib.hid ho.out.nums
      have CG2 := Lib.hid (CG.out _ cap w2 HA2.out HN2.out)
      obtain ⟨g, off, rfl, _, _, hc, _⟩ := ho.out (by omega)
      have t0 := hc S (by omega)
      have e0 : (0 : Int) ≤ (S : Int) := by omega
      have e1 : (S : Int) < ((S + 1 : Nat) : Int) := by omega
      generalize Tt S = t at t0 hT
      clear ho b2 hc CF CG HN2 HA1 HA2
      go_wp2_with fail
      refine CG2.out.mono ?_
      rintro e w3 ⟨A3, cap3, rfl, ho, b3⟩
      have HF := Lib.hid (HP.out _ _ A3 cap3 ho HB2.out b3)
      clear ho b3
      go_wp2_with fail
      exact HF.out
  · have hf : fc n x s s = codeL n x s := fc_same n x s
    have h1 : feL n x s s = [] := by unfold feL; rw [if_neg (by rw [hf]; exact h0)]
    have h2 : feC n x s s = codeL n x s := by unfold feC; rw [if_neg (by rw [hf]; exact h0), hf]
    have HP : Hid (∀ w', Below w.heap.size w w' → PairAt (feL n x s s).length (bl x (feL n x s s)) (feC n x s s) w (.returned (.tuple #[.slice none 0 0, .int .i64 (codeL n x s)])) w') := Lib.hid fun w' hb => by rw [h1, h2]; exact pair_no hb _
    have hne : (codeL n x s != 0) = true := by simpa using h0
    generalize PairAt _ _ _ w = Q at HP ⊢
    generalize codeL n x s = r at C HP hne
    clear h0 hf h1 h2
    go_enter Try.func27, Try.ntmps27
    go_wp2_with fail
    refine C.out.mono ?_
    rintro e w1 ⟨rfl, b1⟩
    have HF := Lib.hid (HP.out _ b1)
    clear b1
    go_wp2_with fail
    exact HF.out
end Go.Proofs.Ytpmmfalpcooenab.Fe
