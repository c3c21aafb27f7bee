/- The cheapest layers: the program's. -/
import Derived.Test.YtpmmfalpcooenabFwyLib
import Derived.Test.YtpmmfalpcooenabBqLib
import Derived.Test.YtpmmfalpcooenabBwLib
namespace Go.Proofs.Ytpmmfalpcooenab.Cp
open Go.RowKit Go.Maps Ft Is Ge Qb Ly Kn Mm Bg Bh Fe
open Un (sum_any code_spec codeL code_ok)
open Bw (But)

/-- The code of layers, prices and a sum. -/
noncomputable def prB (n np : Nat) (p : Nat → Int) : Bool := decide (np = n) && tv (Al 0 1000 np p)
noncomputable def cc (n : Nat) (x : Nat → Int) (np : Nat) (p : Nat → Int) (s : Int) : Int := Ba.argE (tv (LyP n x)) (inB s 0 1000 && prB n np p)
noncomputable def co (n : Nat) (x p : Nat → Int) (s : Int) : Option (List Nat) := B x (wt p) n 0 s
noncomputable def chL (n : Nat) (x : Nat → Int) (np : Nat) (p : Nat → Int) (s : Int) : List Nat := if cc n x np p s = 0 then ol (co n x p s) else []
noncomputable def chP (n : Nat) (x : Nat → Int) (np : Nat) (p : Nat → Int) (s : Int) : Int := if cc n x np p s = 0 then sm p (ol (co n x p s)) else 0
noncomputable def chC (n : Nat) (x : Nat → Int) (np : Nat) (p : Nat → Int) (s : Int) : Int := if cc n x np p s = 0 then (if (co n x p s).isSome then 0 else 3) else cc n x np p s
/-- A new list, a number and a code. -/
def TriAt (m : Nat) (d : Nat → Int) (v c : Int) (w : World) (e : Ending) (w' : World) : Prop := ∃ A cap, e = .returned (.tuple #[.slice A m cap, .int .i64 v, .int .i64 c]) ∧ Hid (Own w' w.heap.size A m d) ∧ Below w.heap.size w w'
theorem tri_no {w w' : World} {c : Int} (hb : Below w.heap.size w w') (d : Nat → Int) : TriAt 0 d 0 c w (.returned (.tuple #[.slice none 0 0, .int .i64 0, .int .i64 c])) w' := ⟨none, 0, rfl, Lib.hid fun h => absurd h (by omega), hb⟩
theorem cc_ok {n : Nat} {x : Nat → Int} {np : Nat} {p : Nat → Int} {s : Int} (h : cc n x np p s = 0) : tv (LyP n x) = true ∧ inB s 0 1000 = true ∧ prB n np p = true := by
  unfold cc Ba.argE at h
  cases h1 : tv (LyP n x) <;> rw [h1] at h
  · simp at h
  · cases h2 : inB s 0 1000 <;> rw [h2] at h
    · simp at h
    · cases h3 : prB n np p <;> rw [h3] at h
      · simp at h
      · exact ⟨rfl, rfl, rfl⟩
theorem pr_ok {n np : Nat} {p : Nat → Int} (h : prB n np p = true) : np = n ∧ ∀ i, i < n → 0 ≤ p i ∧ p i ≤ 1000 := by
  unfold prB at h
  simp only [Bool.and_eq_true, decide_eq_true_eq] at h
  obtain ⟨rfl, h⟩ := h
  exact ⟨rfl, fun i hi => in_of (tv_iff.1 h i hi)⟩
theorem par2 {n : Nat} {x p : Nat → Int} (h : LyP n x) (hp : ∀ i, i < n → 0 ≤ p i ∧ p i ≤ 1000) : Par x p n := ⟨lay_of h, hp, h.1.2⟩
theorem ch_len (n : Nat) (x : Nat → Int) (np : Nat) (p : Nat → Int) (s : Int) : (chL n x np p s).length ≤ 1048576 := by
  unfold chL
  split
  · rename_i h
    obtain ⟨h1, h2, h3⟩ := cc_ok h
    have P := par2 (tv_iff.1 h1) (pr_ok h3).2
    have e2 := in_of h2
    cases ho : co n x p s with
    | none => simp
    | some l =>
      have := (ok_bd P (lo := s) (hi := s + 0) (by omega) (B_ok P.ok ho)).1
      show l.length ≤ 1048576
      omega
  · simp
set_option maxRecDepth 100000 in
theorem own_but {b B : Nat} {w w' : World} {A : Option Addr} {m : Nat} {d : Nat → Int} (h : Own w B A m d) (hg : But b w w') (hb : b < B) : Own w' B A m d := fun hm => by
  obtain ⟨g, off, e, h1, h2, h3, h4⟩ := h hm
  have hk := hg.block g h2 (by omega)
  exact ⟨g, off, e, h1, Nat.lt_of_lt_of_le h2 hg.size, fun i hi => (World.cell?_of_block hk).trans (h3 i hi), fun i => by
    have := h4 i
    unfold World.frozen? at this ⊢
    simp only [hk]
    exact this⟩
set_option maxRecDepth 100000 in
theorem prices_any (A : Option Addr) (n np c : Nat) (p : Nat → Int) (hn : np ≤ 1048576) (w : World) (hA : Nums w w.heap.size A np p) :
    Calls Try.prog 83 #[.slice A np c, .int .i64 (n : Int)] w fun e w' => e = .returned (.bool (prB n np p)) ∧ w = w' := by
  have C := Lib.hid (are_any 0 1000 A np c p hn w hA)
  have HE : Hid (prB n np p = (decide (np = n) && tv (Al 0 1000 np p))) := Lib.hid rfl
  generalize prB n np p = r at HE ⊢
  generalize tv (Al 0 1000 np p) = r1 at C HE
  have hn' := Lib.hid hn
  clear hn hA
  by_cases h : np = n
  · have HV := Lib.hid (show r = r1 by rw [HE.out, decide_eq_true h, Bool.true_and])
    subst h
    clear HE
    go_enter Try.func83, Try.ntmps83
    go_wp2_with fail
    refine C.out.mono ?_
    rintro e w' ⟨rfl, rfl⟩
    go_wp2_with fail
    go_ret
    exact ⟨Ba.ret_bool HV.out.symm, rfl⟩
  · have HV := Lib.hid (show r = false by rw [HE.out, decide_eq_false h, Bool.false_and])
    have e1 : ((np : Int) == (n : Int)) = false := by simp; omega
    go_enter Try.func83, Try.ntmps83
    go_wp2_with fail
    go_ret
    exact ⟨Ba.ret_bool HV.out.symm, rfl⟩
set_option maxRecDepth 100000 in
set_option maxHeartbeats 2000000 in
theorem impl_ch (A : Option Addr) (n c : Nat) (x : Nat → Int) (Ap : Option Addr) (np cp : Nat) (p : Nat → Int) (s : Int) (hn : n ≤ 1048576) (hnp : np ≤ 1048576) (w : World) (hA : Nums w w.heap.size A n x) (hP : Nums w w.heap.size Ap np p) :
    Calls Try.prog 38 #[.slice A n c, .slice Ap np cp, .int .i64 s] w (TriAt (chL n x np p s).length (bl x (chL n x np p s)) (chP n x np p s) (chC n x np p s) w) := by
  have C1 := Lib.hid (impl_valid A n c x hn w hA)
  have C2 := Lib.hid (fun w => sum_any s w)
  have C3 := Lib.hid (prices_any Ap n np cp p hnp w hP)
  have HA := Lib.hid hA
  have HPp := Lib.hid hP
  clear hA hP
  by_cases h0 : cc n x np p s = 0
  · obtain ⟨v1, v2, v3⟩ := cc_ok h0
    have hL := tv_iff.1 v1
    obtain ⟨e2, e3⟩ := in_of v2
    obtain ⟨hnn, hpr⟩ := pr_ok v3
    subst hnn
    have P := par2 hL hpr
    have CF := Lib.hid (fun w h1 h2 => Bh.make_any A Ap np c cp x p 0 w h1 h2)
    rw [v1] at C1
    rw [v2] at C2
    rw [v3] at C3
    cases ho : co np x p s with
    | none =>
      have h1 : chL np x np p s = [] := by unfold chL; rw [if_pos h0, ho]; rfl
      have h2 : chC np x np p s = 3 := by unfold chC; rw [if_pos h0, ho]; rfl
      have h3 : chP np x np p s = 0 := by unfold chP; rw [if_pos h0, ho]; rfl
      have CB := Lib.hid (fun w0 L gs gm gl gb gp b w hI => none_any w0 L gs gm gl gb gp b A Ap np c cp x p 0 P ⟨Int.le_refl _, by decide⟩ s e2 (by omega) ho w hI)
      have HP : Hid (∀ w', Below w.heap.size w w' → TriAt (chL np x np p s).length (bl x (chL np x np p s)) (chP np x np p s) (chC np x np p s) w (.returned (.tuple #[.slice none 0 0, .int .i64 0, .int .i64 3])) w') := Lib.hid fun w' hb => by rw [h1, h2, h3]; exact tri_no hb _
      generalize TriAt _ _ _ _ w = Q at HP ⊢
      clear h0 ho h1 h2 h3 v1 v2 v3 P hL hpr
      go_enter Try.func38, Try.ntmps38
      go_wp2_with fail
      refine (C2.out _).mono ?_
      rintro e w2 ⟨rfl, rfl⟩
      go_wp2_with fail
      refine C3.out.mono ?_
      rintro e w2 ⟨rfl, rfl⟩
      go_wp2_with fail
      refine C1.out.mono ?_
      rintro e w1 ⟨rfl, b1⟩
      have HB1 := Lib.hid b1
      have HA1 := Lib.hid ((HA.out.below b1 (Nat.le_refl _)).more b1.size)
      have HP1 := Lib.hid ((HPp.out.below b1 (Nat.le_refl _)).more b1.size)
      clear b1 C1 HA HPp
      go_wp2_with fail
      refine (Ba.arg_ok _).mono ?_
      rintro e w2 ⟨rfl, rfl⟩
      go_wp2_with fail
      refine (CF.out _ HA1.out HP1.out).mono ?_
      rintro e w2 ⟨gs, gm, gl, gb, gp, b, rfl, hI⟩
      have HI2 := Lib.hid hI
      have CC := Lib.hid (CB.out _ _ _ _ _ _ _ _ _ hI)
      clear hI CB CF
      go_wp2_with fail
      refine CC.out.mono ?_
      rintro e w4 ⟨rfl, hI, _⟩
      have HF := Lib.hid (HP.out _ (below_then HB1.out hI.below))
      clear hI
      go_wp2_with fail
      exact bodyPost_ret (v := .tuple #[.slice none 0 0, .int .i64 0, .int .i64 3]) (by simp [results, Try.results38, go_sem]) rfl HF.out
    | some l =>
      have h1 : chL np x np p s = l := by unfold chL; rw [if_pos h0, ho]; rfl
      have h2 : chC np x np p s = 0 := by unfold chC; rw [if_pos h0, ho]; rfl
      have h3 : chP np x np p s = sm p l := by unfold chP; rw [if_pos h0, ho]; rfl
      have CB := Lib.hid (fun w0 L gs gm gl gb gp b w hI => Bh.some_any w0 L gs gm gl gb gp b A Ap np c cp x p 0 P ⟨Int.le_refl _, by decide⟩ s e2 (by omega) l ho w hI)
      have CE := Lib.hid (fun w0 L gs gm gl gb gp b w hI => by
        have h := begin_any w0 L gs gm gl gb gp b A Ap np c cp x p 0 P ⟨Int.le_refl _, by decide⟩ s.toNat s (Nat.le_refl _) (by omega) (by omega) (by omega) w hI
        have ho' : B x (wt p) np 0 s = some l := ho
        rw [ho'] at h
        exact (⟨_, _, h⟩ : ∃ o2 o3, Calls Try.prog 120 _ w fun e w' => e = .returned (.agg #[.int .i64 (sm p l), .int .i64 o2, .int .i64 o3, .bool true]) ∧ BInv w0 L gs gm gl gb gp b A Ap np c cp x p 0 w' ∧ But b w w'))
      have HP : Hid (∀ (w0 w' : World) A' cap, Below w.heap.size w w' → w.heap.size ≤ w0.heap.size → Own w' w0.heap.size A' l.length (bl x l) → TriAt (chL np x np p s).length (bl x (chL np x np p s)) (chP np x np p s) (chC np x np p s) w (.returned (.tuple #[.slice A' l.length cap, .int .i64 (sm p l), .int .i64 0])) w') := Lib.hid fun w0 w' A' cap hb hz ho => by
        rw [h1, h2, h3]
        exact ⟨A', cap, rfl, Lib.hid fun hp => by
          obtain ⟨b, off, e, h1, h2, h3, h4⟩ := ho hp
          exact ⟨b, off, e, by omega, h2, h3, h4⟩, hb⟩
      generalize TriAt _ _ _ _ w = Q at HP ⊢
      generalize sm p l = v at CE HP
      clear h0 ho h1 h2 h3 v1 v2 v3 P hL hpr
      go_enter Try.func38, Try.ntmps38
      go_wp2_with fail
      refine (C2.out _).mono ?_
      rintro e w2 ⟨rfl, rfl⟩
      go_wp2_with fail
      refine C3.out.mono ?_
      rintro e w2 ⟨rfl, rfl⟩
      go_wp2_with fail
      refine C1.out.mono ?_
      rintro e w1 ⟨rfl, b1⟩
      have HB1 := Lib.hid b1
      have HA1 := Lib.hid ((HA.out.below b1 (Nat.le_refl _)).more b1.size)
      have HP1 := Lib.hid ((HPp.out.below b1 (Nat.le_refl _)).more b1.size)
      clear b1 C1 HA HPp
      go_wp2_with fail
      refine (Ba.arg_ok _).mono ?_
      rintro e w2 ⟨rfl, rfl⟩
      go_wp2_with fail
      refine (CF.out _ HA1.out HP1.out).mono ?_
      rintro e w2 ⟨gs, gm, gl, gb, gp, b, rfl, hI⟩
      have HI2 := Lib.hid hI
      have CC := Lib.hid (CB.out _ _ _ _ _ _ _ _ _ hI)
      clear hI CB CF
      go_wp2_with fail
      refine CC.out.mono ?_
      rintro e w4 ⟨A', cap, rfl, ho, hI, _⟩
      obtain ⟨o2, o3, ce⟩ := CE.out _ _ _ _ _ _ _ _ _ hI.out
      have CX := Lib.hid ce
      have HO := ho
      have HB2 := Lib.hid (below_then HB1.out HI2.out.below)
      have HLq := Lib.hid (HI2.out.ltq)
      have f1 : ∀ W, (Instr.field 115 (.agg #[.int .i64 v, .int .i64 o2, .int .i64 o3, .bool true]) 0).run Try.prog W = .ok (.agg #[.int .i64 v, .int .i64 o2]) W := fun W => by kernel_rfl
      have f2 : ∀ W, (Instr.field 113 (.agg #[.int .i64 v, .int .i64 o2]) 0).run Try.prog W = .ok (.int .i64 v) W := fun W => by kernel_rfl
      clear hI ho ce CE
      go_wp2_with fail
      refine CX.out.mono ?_
      rintro e w5 ⟨rfl, hI5, hT5⟩
      have HF := Lib.hid (HP.out w2 w5 A' cap (below_then HB1.out hI5.below) HB2.out.size (own_but HO.out hT5 HLq.out))
      have f3 := f1 w5
      have f4 := f2 w5
      clear hI5 hT5 f1 f2
      go_wp2_with fail
      exact bodyPost_ret (v := .tuple #[.slice A' l.length cap, .int .i64 v, .int .i64 0]) (by simp [results, Try.results38, go_sem]) rfl HF.out
  · have h1 : chL n x np p s = [] := by unfold chL; rw [if_neg h0]
    have h2 : chC n x np p s = cc n x np p s := by unfold chC; rw [if_neg h0]
    have h3 : chP n x np p s = 0 := by unfold chP; rw [if_neg h0]
    have HP : Hid (∀ w', Below w.heap.size w w' → TriAt (chL n x np p s).length (bl x (chL n x np p s)) (chP n x np p s) (chC n x np p s) w (.returned (.tuple #[.slice none 0 0, .int .i64 0, .int .i64 (cc n x np p s)])) w') := Lib.hid fun w' hb => by rw [h1, h2, h3]; exact tri_no hb _
    have hne : (cc n x np p s != 0) = true := by simpa using h0
    have C4 := Lib.hid (fun w => Ba.arg_any (tv (LyP n x)) (inB s 0 1000 && prB n np p) w)
    have HC : Hid (cc n x np p s = Ba.argE (tv (LyP n x)) (inB s 0 1000 && prB n np p)) := Lib.hid rfl
    generalize TriAt _ _ _ _ w = Q at HP ⊢
    rw [← HC.out] at C4
    clear h1 h2 h3 HC h0
    generalize cc n x np p s = r at C4 HP hne
    generalize tv (LyP n x) = r1 at C1 C4
    generalize inB s 0 1000 = r2 at C2 C4
    generalize prB n np p = r3 at C3 C4
    cases r2
    · simp only [Bool.false_and] at C4
      go_enter Try.func38, Try.ntmps38
      go_wp2_with fail
      refine (C2.out _).mono ?_
      rintro e w2 ⟨rfl, rfl⟩
      go_wp2_with fail
      refine C1.out.mono ?_
      rintro e w1 ⟨rfl, b1⟩
      have HF := Lib.hid (HP.out _ b1)
      clear b1
      go_wp2_with fail
      refine (C4.out _).mono ?_
      rintro e w2 ⟨rfl, rfl⟩
      go_wp2_with fail
      exact bodyPost_ret (v := .tuple #[.slice none 0 0, .int .i64 0, .int .i64 r]) (by simp [results, Try.results38, go_sem]) rfl HF.out
    · simp only [Bool.true_and] at C4
      go_enter Try.func38, Try.ntmps38
      go_wp2_with fail
      refine (C2.out _).mono ?_
      rintro e w2 ⟨rfl, rfl⟩
      go_wp2_with fail
      refine C3.out.mono ?_
      rintro e w2 ⟨rfl, rfl⟩
      go_wp2_with fail
      refine C1.out.mono ?_
      rintro e w1 ⟨rfl, b1⟩
      have HF := Lib.hid (HP.out _ b1)
      clear b1
      go_wp2_with fail
      refine (C4.out _).mono ?_
      rintro e w2 ⟨rfl, rfl⟩
      go_wp2_with fail
      exact bodyPost_ret (v := .tuple #[.slice none 0 0, .int .i64 0, .int .i64 r]) (by simp [results, Try.results38, go_sem]) rfl HF.out
end Go.Proofs.Ytpmmfalpcooenab.Cp
