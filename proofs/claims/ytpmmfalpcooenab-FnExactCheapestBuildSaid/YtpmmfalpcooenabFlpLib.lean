/- The fewest layers between two limits: the program's. -/
import Derived.Test.YtpmmfalpcooenabBkLib
namespace Go.Proofs.Ytpmmfalpcooenab.Fe
open Go.RowKit Go.Maps Ft Is Ge Qb Ly Kn Mm Bg Bh
open Un (PairAt pair_no sum_any)

/-- The code of layers and two limits. -/
noncomputable def fc (n : Nat) (x : Nat → Int) (lo hi : Int) : Int := Ba.argE (tv (LyP n x)) (inB hi 0 1000 && inB lo 0 hi)
/-- The best build with a sum between two limits. -/
noncomputable def fo (n : Nat) (x : Nat → Int) (lo hi : Int) : Option (List Nat) := B x Kf.w1 n (hi - lo) lo
noncomputable def feL (n : Nat) (x : Nat → Int) (lo hi : Int) : List Nat := if fc n x lo hi = 0 then (fo n x lo hi).getD [] else []
noncomputable def feC (n : Nat) (x : Nat → Int) (lo hi : Int) : Int := if fc n x lo hi = 0 then (if (fo n x lo hi).isSome then 0 else 3) else fc n x lo hi
theorem fc_ok {n : Nat} {x : Nat → Int} {lo hi : Int} (h : fc n x lo hi = 0) : tv (LyP n x) = true ∧ inB hi 0 1000 = true ∧ inB lo 0 hi = true := by
  unfold fc Ba.argE at h
  cases h1 : tv (LyP n x) <;> rw [h1] at h
  · simp at h
  · cases h2 : inB hi 0 1000 <;> rw [h2] at h
    · simp at h
    · cases h3 : inB lo 0 hi <;> rw [h3] at h
      · simp at h
      · exact ⟨rfl, rfl, rfl⟩
theorem par_of {n : Nat} {x : Nat → Int} (h : LyP n x) : Par x (fun _ => 0) n := ⟨lay_of h, fun _ _ => ⟨Int.le_refl _, by decide⟩, h.1.2⟩
theorem wt_one : wt (fun _ => 0) = Kf.w1 := by funext i; show 2000 * (0 : Int) + 1 = 1; rfl
theorem fe_len (n : Nat) (x : Nat → Int) (lo hi : Int) : (feL n x lo hi).length ≤ 1048576 := by
  unfold feL
  split
  · rename_i h
    obtain ⟨h1, h2, h3⟩ := fc_ok h
    have hL := tv_iff.1 h1
    have e2 := in_of h2
    have e3 := in_of h3
    cases ho : fo n x lo hi with
    | none => simp
    | some l =>
      have := (ok_bd (par_of hL) (lo := lo) (hi := lo + (hi - lo)) (by omega) (B_ok (Kf.lay1 hL) ho)).1
      show l.length ≤ 1048576
      omega
  · simp
set_option maxRecDepth 100000 in
set_option maxHeartbeats 2000000 in
theorem impl_fw (A : Option Addr) (n c : Nat) (x : Nat → Int) (lo hi : Int) (hn : n ≤ 1048576) (w : World) (hA : Nums w w.heap.size A n x) :
    Calls Try.prog 32 #[.slice A n c, .int .i64 lo, .int .i64 hi] w (PairAt (feL n x lo hi).length (bl x (feL n x lo hi)) (feC n x lo hi) w) := by
  have C1 := Lib.hid (impl_valid A n c x hn w hA)
  have C2 := Lib.hid (fun w => sum_any hi w)
  have C3 := Lib.hid (fun w => Ly.within_any lo 0 hi w)
  have HA := Lib.hid hA
  clear hA
  by_cases h0 : fc n x lo hi = 0
  · obtain ⟨v1, v2, v3⟩ := fc_ok h0
    have hL := tv_iff.1 v1
    obtain ⟨e2, e3⟩ := in_of v2
    obtain ⟨e4, e5⟩ := in_of v3
    have P := par_of hL
    have CF := Lib.hid (fun w h => fewest_any A n c x (hi - lo) hL.1.2 w h)
    rw [v1] at C1
    rw [v2] at C2
    rw [v3] at C3
    cases ho : fo n x lo hi with
    | none =>
      have h1 : feL n x lo hi = [] := by unfold feL; rw [if_pos h0, ho]; rfl
      have h2 : feC n x lo hi = 3 := by unfold feC; rw [if_pos h0, ho]; rfl
      have hb : B x (wt (fun _ => 0)) n (hi - lo) lo = none := by rw [wt_one]; exact ho
      have CB := Lib.hid (fun w0 L gs gm gl gb gp b Ap w hI => none_any w0 L gs gm gl gb gp b A Ap n c n x (fun _ => 0) (hi - lo) P ⟨by omega, by omega⟩ lo e4 (by omega) hb w hI)
      have HP : Hid (∀ w', Below w.heap.size w w' → PairAt (feL n x lo hi).length (bl x (feL n x lo hi)) (feC n x lo hi) w (.returned (.tuple #[.slice none 0 0, .int .i64 3])) w') := Lib.hid fun w' hb => by rw [h1, h2]; exact pair_no hb _
      generalize PairAt _ _ _ w = Q at HP ⊢
      clear h0 ho h1 h2 hb v1 v2 v3 P hL
      go_enter Try.func32, Try.ntmps32
      go_wp2_with fail
      refine (C2.out _).mono ?_
      rintro e w2 ⟨rfl, rfl⟩
      go_wp2_with fail
      refine (C3.out _).mono ?_
      rintro e w2 ⟨rfl, rfl⟩
      go_wp2_with fail
      refine C1.out.mono ?_
      rintro e w1 ⟨rfl, b1⟩
      have HB1 := Lib.hid b1
      have HA1 := Lib.hid ((HA.out.below b1 (Nat.le_refl _)).more b1.size)
      clear b1 C1 HA
      go_wp2_with fail
      refine (Ba.arg_ok _).mono ?_
      rintro e w2 ⟨rfl, rfl⟩
      go_wp2_with fail
      refine (CF.out _ HA1.out).mono ?_
      rintro e w2 ⟨w3, Ap, gs, gm, gl, gb, gp, b, rfl, b3, hI⟩
      have HB3 := Lib.hid (below_then HB1.out b3)
      have CC := Lib.hid (CB.out _ _ _ _ _ _ _ _ _ _ hI)
      clear b3 hI CB CF
      go_wp2_with fail
      refine CC.out.mono ?_
      rintro e w4 ⟨rfl, hI, _⟩
      have HF := Lib.hid (HP.out _ (below_then HB3.out hI.below))
      clear hI
      go_wp2_with fail
      exact HF.out
    | some l =>
      have h1 : feL n x lo hi = l := by unfold feL; rw [if_pos h0, ho]; rfl
      have h2 : feC n x lo hi = 0 := by unfold feC; rw [if_pos h0, ho]; rfl
      have hb : B x (wt (fun _ => 0)) n (hi - lo) lo = some l := by rw [wt_one]; exact ho
      have CB := Lib.hid (fun w0 L gs gm gl gb gp b Ap w hI => Bh.some_any w0 L gs gm gl gb gp b A Ap n c n x (fun _ => 0) (hi - lo) P ⟨by omega, by omega⟩ lo e4 (by omega) l hb w hI)
      have HP : Hid (∀ (w0 w' : World) A' cap, Below w.heap.size w w' → w.heap.size ≤ w0.heap.size → Own w' w0.heap.size A' l.length (bl x l) → PairAt (feL n x lo hi).length (bl x (feL n x lo hi)) (feC n x lo hi) w (.returned (.tuple #[.slice A' l.length cap, .int .i64 0])) w') := Lib.hid fun w0 w' A' cap hb hz ho => by
        rw [h1, h2]
        exact ⟨A', cap, rfl, Lib.hid fun hp => by
          obtain ⟨b, off, e, h1, h2, h3, h4⟩ := ho hp
          exact ⟨b, off, e, by omega, h2, h3, h4⟩, hb⟩
      generalize PairAt _ _ _ w = Q at HP ⊢
      clear h0 ho h1 h2 hb v1 v2 v3 P hL
      go_enter Try.func32, Try.ntmps32
      go_wp2_with fail
      refine (C2.out _).mono ?_
      rintro e w2 ⟨rfl, rfl⟩
      go_wp2_with fail
      refine (C3.out _).mono ?_
      rintro e w2 ⟨rfl, rfl⟩
      go_wp2_with fail
      refine C1.out.mono ?_
      rintro e w1 ⟨rfl, b1⟩
      have HB1 := Lib.hid b1
      have HA1 := Lib.hid ((HA.out.below b1 (Nat.le_refl _)).more b1.size)
      clear b1 C1 HA
      go_wp2_with fail
      refine (Ba.arg_ok _).mono ?_
      rintro e w2 ⟨rfl, rfl⟩
      go_wp2_with fail
      refine (CF.out _ HA1.out).mono ?_
      rintro e w2 ⟨w3, Ap, gs, gm, gl, gb, gp, b, rfl, b3, hI⟩
      have HB3 := Lib.hid (below_then HB1.out b3)
      have HB4 := Lib.hid (below_then HB3.out hI.below)
      have CC := Lib.hid (CB.out _ _ _ _ _ _ _ _ _ _ hI)
      clear b3 hI CB CF
      go_wp2_with fail
      refine CC.out.mono ?_
      rintro e w4 ⟨A', cap, rfl, ho, hI, _⟩
      have HF := Lib.hid (HP.out _ _ A' cap (below_then HB3.out hI.out.below) HB4.out.size ho.out)
      clear hI ho
      go_wp2_with fail
      exact HF.out
  · have h1 : feL n x lo hi = [] := by unfold feL; rw [if_neg h0]
    have h2 : feC n x lo hi = fc n x lo hi := by unfold feC; rw [if_neg h0]
    have HP : Hid (∀ w', Below w.heap.size w w' → PairAt (feL n x lo hi).length (bl x (feL n x lo hi)) (feC n x lo hi) w (.returned (.tuple #[.slice none 0 0, .int .i64 (fc n x lo hi)])) w') := Lib.hid fun w' hb => by rw [h1, h2]; exact pair_no hb _
    have hne : (fc n x lo hi != 0) = true := by simpa using h0
    have C4 := Lib.hid (fun w => Ba.arg_any (tv (LyP n x)) (inB hi 0 1000 && inB lo 0 hi) w)
    have HC : Hid (fc n x lo hi = Ba.argE (tv (LyP n x)) (inB hi 0 1000 && inB lo 0 hi)) := Lib.hid rfl
    generalize PairAt _ _ _ w = Q at HP ⊢
    rw [← HC.out] at C4
    clear h1 h2 HC h0
    generalize fc n x lo hi = r at C4 HP hne
    generalize tv (LyP n x) = r1 at C1 C4
    generalize inB hi 0 1000 = r2 at C2 C4
    generalize inB lo 0 hi = r3 at C3 C4
    cases r2
    · simp only [Bool.false_and] at C4
      go_enter Try.func32, Try.ntmps32
      go_wp2_with fail
      refine (C2.out _).mono ?_
      rintro e w2 ⟨rfl, rfl⟩
      go_wp2_with fail
      refine C1.out.mono ?_
      rintro e w1 ⟨rfl, b1⟩
      have HF := Lib.hid (HP.out _ b1)
      clear b1
      go_wp2_with fail
      refine (C4.out _).mono ?_
      rintro e w2 ⟨rfl, rfl⟩
      go_wp2_with fail
      exact HF.out
    · simp only [Bool.true_and] at C4
      go_enter Try.func32, Try.ntmps32
      go_wp2_with fail
      refine (C2.out _).mono ?_
      rintro e w2 ⟨rfl, rfl⟩
      go_wp2_with fail
      refine (C3.out _).mono ?_
      rintro e w2 ⟨rfl, rfl⟩
      go_wp2_with fail
      refine C1.out.mono ?_
      rintro e w1 ⟨rfl, b1⟩
      have HF := Lib.hid (HP.out _ b1)
      clear b1
      go_wp2_with fail
      refine (C4.out _).mono ?_
      rintro e w2 ⟨rfl, rfl⟩
      go_wp2_with fail
      exact HF.out
theorem impl_fl (A : Option Addr) (n c : Nat) (x : Nat → Int) (s : Int) (hn : n ≤ 1048576) (w : World) (hA : Nums w w.heap.size A n x) :
    Calls Try.prog 28 #[.slice A n c, .int .i64 s] w (PairAt (feL n x s s).length (bl x (feL n x s s)) (feC n x s s) w) := by
  have C := Lib.hid (impl_fw A n c x s s hn w hA)
  generalize bl x (feL n x s s) = d at C ⊢
  generalize (feL n x s s).length = m at C ⊢
  generalize feC n x s s = cd at C ⊢
  have HP : Hid (∀ w' A' cap, Hid (Own w' w.heap.size A' m d) → Below w.heap.size w w' → PairAt m d cd w (.returned (.tuple #[.slice A' m cap, .int .i64 cd])) w') := Lib.hid fun _ A' cap h1 h2 => ⟨A', cap, rfl, h1, h2⟩
  generalize hQ : PairAt m d cd w = Q at HP ⊢
  rw [← hQ]
  clear hA
  have C := C.out
  rw [hQ] at C ⊢
  have HQ : Hid (∀ e w', Q e w' → ∃ A' cap, e = .returned (.tuple #[.slice A' m cap, .int .i64 cd]) ∧ Hid (Own w' w.heap.size A' m d) ∧ Below w.heap.size w w') := Lib.hid (by subst hQ; exact fun _ _ h => h)
  have C := Lib.hid C
  clear hQ
  go_enter Try.func28, Try.ntmps28
  go_wp2_with fail
  refine C.out.mono ?_
  intro e w' h
  obtain ⟨A', cap, rfl, h1, h2⟩ := HQ.out _ _ h
  have HF := Lib.hid (HP.out _ A' cap h1 h2)
  clear h h1 h2
  go_wp2_with fail
  exact HF.out
end Go.Proofs.Ytpmmfalpcooenab.Fe
