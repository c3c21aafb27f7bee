/- MayFit and FitCost: the spec's; whether a call's arguments are valid: the program's. -/
import Derived.Test.YtaoknbhpjnileabCoLib
import Derived.Test.YtaoknbhpjnileabLvLib
namespace Go.Proofs.Ytaoknbhpjnileab.Co
open Go.RowKit Ft Is Fi La Fa Ge

/-- A foot. -/
abbrev ftV (a : Nat → Int) : Value := .agg #[.int .i64 (a 0), .int .i64 (a 1), .int .i64 (a 2), .int .i64 (a 3)]
abbrev ftC (a : Nat → Int) (t : TypeId) : Obj := .cells #[.int .i64 (a 0), .int .i64 (a 1), .int .i64 (a 2), .int .i64 (a 3)] t
abbrev fiC (mn mx gi : Int) (A : Option Addr) (n c : Nat) (t : TypeId) : Obj := .cells #[.int .i64 mn, .int .i64 mx, .int .i64 gi, .slice A n c] t
/-- A last, a foot and a fit are all valid. -/
noncomputable def okB (s : ByteArray) (x a : Nat → Int) (mn mx gi : Int) (n : Nat) (p : Nat → Int) : Bool := laB s x && (ftB (a 0) (a 1) (a 2) (a 3) && tv (FitOk mn mx gi n p))
noncomputable def mayV (s : ByteArray) (x a : Nat → Int) (mn mx gi : Int) (n : Nat) (p : Nat → Int) : Bool := okB s x a mn mx gi n p && decide (0 ≤ ct mn mx gi p x a)
noncomputable def mayC (s : ByteArray) (x a : Nat → Int) (mn mx gi : Int) (n : Nat) (p : Nat → Int) : Int := if okB s x a mn mx gi n p then 0 else 1
noncomputable def costV (s : ByteArray) (x a : Nat → Int) (mn mx gi : Int) (n : Nat) (p : Nat → Int) : Int := if mayV s x a mn mx gi n p then ct mn mx gi p x a else 0
noncomputable def costC (s : ByteArray) (x a : Nat → Int) (mn mx gi : Int) (n : Nat) (p : Nat → Int) : Int := if okB s x a mn mx gi n p then (if 0 ≤ ct mn mx gi p x a then 0 else 10) else 1
/-- The value of a fitting: a last and a fit. -/
abbrev ftgV (s : ByteArray) (x : Nat → Int) (mn mx gi : Int) (A : Option Addr) (c : Nat) : Value := .agg #[.string s, .int .i64 (x 0), .int .i64 (x 1), .int .i64 (x 2), .int .i64 (x 3), .int .i64 (x 4), .int .i64 mn, .int .i64 mx, .int .i64 gi, .slice A 4 c]
/-- The gaps. -/
def gp (x a : Nat → Int) (k : Nat) : Int := if k = 0 then x 0 - a 0 else gap (x k) (a k)
theorem three (w : World) (A B C : Obj) : (((w.alloc A).alloc B).alloc C).heap[w.heap.size]? = some A ∧ (((w.alloc A).alloc B).alloc C).heap[w.heap.size + 1]? = some B ∧ (((w.alloc A).alloc B).alloc C).heap[w.heap.size + 1 + 1]? = some C := by
  refine ⟨?_, ?_, ?_⟩
  · rw [Below.heap_alloc _ _ _ (by simp; omega), Below.heap_alloc _ _ _ (by simp)]; exact heap_alloc_new _ _
  · rw [Below.heap_alloc _ _ _ (by simp)]
    have := heap_alloc_new (w.alloc A) B
    simpa using this
  · have := heap_alloc_new ((w.alloc A).alloc B) C
    simpa using this
theorem below3 (w : World) (A B C : Obj) : Below w.heap.size w (((w.alloc A).alloc B).alloc C) := (((Below.refl _ _).alloc (Nat.le_refl _) _).alloc (by simp) _).alloc (by simp; omega) _
theorem mild_of_la {s : ByteArray} {x : Nat → Int} (h : laB s x = true) : Mild x := fun j hj => by
  unfold laB at h
  simp only [Bool.and_eq_true, ftB, inB, decide_eq_true_eq] at h
  obtain ⟨_, ⟨h0, h1, h2, h3⟩, _⟩ := h
  obtain rfl | rfl | rfl | rfl : j = 0 ∨ j = 1 ∨ j = 2 ∨ j = 3 := by omega
  all_goals omega
theorem mild_of_ft {a : Nat → Int} (h : ftB (a 0) (a 1) (a 2) (a 3) = true) : Mild a := fun j hj => by
  simp only [Bool.and_eq_true, ftB, inB, decide_eq_true_eq] at h
  obtain ⟨h0, h1, h2, h3⟩ := h
  obtain rfl | rfl | rfl | rfl : j = 0 ∨ j = 1 ∨ j = 2 ∨ j = 3 := by omega
  all_goals omega
theorem fit_in {mn mx gi : Int} {n : Nat} {p : Nat → Int} (h : FitOk mn mx gi n p) : n = 4 ∧ 0 ≤ mn ∧ mx ≤ 500 ∧ gi ≤ 500 ∧ ∀ k, k < 4 → 0 ≤ p k ∧ p k ≤ 100 := by
  obtain ⟨⟨h1, h2, h3, rfl⟩, h5⟩ := h
  simp only [inB, decide_eq_true_eq] at h1 h2 h3 h5
  exact ⟨rfl, h2.1, h1.2, h3.2, h5⟩
theorem cost_le {mn mx gi : Int} {p x a : Nat → Int} : ct mn mx gi p x a = -1 ∨ 0 ≤ ct mn mx gi p x a ∨ True := .inr (.inr trivial)

def TwoMayFit (v : Bool) (cd : Int) (w : World) (e : Ending) (w' : World) : Prop := e = .returned (.tuple #[.bool v, .int .i64 cd]) ∧ Below w.heap.size w w'
set_option maxRecDepth 100000 in
set_option maxHeartbeats 4000000 in
theorem spec_MayFit (s : ByteArray) (x a : Nat → Int) (mn mx gi : Int) (A : Option Addr) (n c : Nat) (p : Nat → Int) (hs : s.size ≤ maxLen) (hn : n ≤ 1048576) (w : World) (hA : Nums w w.heap.size A n p) :
    Calls Try.prog 15 #[laV s x, ftV a, fitV mn mx gi A n c] w (TwoMayFit (mayV s x a mn mx gi n p) (mayC s x a mn mx gi n p) w) := by
  have C1 := Lib.hid (fun w => one_spec s x hs w)
  have C2 := Lib.hid (fun w => foot_any (a 0) (a 1) (a 2) (a 3) w)
  have C3 := Lib.hid (fun g w hg hA => (spec_fit mn mx gi A n c p hn g w hg hA).mono fun _ _ t => tells_tv t)
  have HA := Lib.hid hA
  obtain ⟨kx, ka, kf⟩ := three w (laC s x 33) (ftC a 35) (fiC mn mx gi A n c 37)
  have HW := Lib.hid (below3 w (laC s x 33) (ftC a 35) (fiC mn mx gi A n c 37))
  have KX := Lib.hid kx
  have KA := Lib.hid ka
  have KF := Lib.hid kf
  clear kx ka kf hA
  have HV : Hid (mayV s x a mn mx gi n p = (okB s x a mn mx gi n p && decide (0 ≤ ct mn mx gi p x a))) := Lib.hid rfl
  have HC : Hid (mayC s x a mn mx gi n p = (if okB s x a mn mx gi n p then 0 else 1)) := Lib.hid rfl
  have HO : Hid (okB s x a mn mx gi n p = (laB s x && (ftB (a 0) (a 1) (a 2) (a 3) && tv (FitOk mn mx gi n p)))) := Lib.hid rfl
  have H4 : Hid (tv (FitOk mn mx gi n p) = true → FitOk mn mx gi n p) := Lib.hid tv_iff.1
  have M1 : Hid (laB s x = true → Mild x) := Lib.hid mild_of_la
  have M2 : Hid (ftB (a 0) (a 1) (a 2) (a 3) = true → Mild a) := Lib.hid mild_of_ft
  generalize mayV s x a mn mx gi n p = V at HV ⊢
  generalize mayC s x a mn mx gi n p = CC at HC ⊢
  generalize okB s x a mn mx gi n p = ok at HO HV HC
  generalize laB s x = r1 at HO C1 M1
  generalize ftB (a 0) (a 1) (a 2) (a 3) = r2 at HO C2 M2
  generalize tv (FitOk mn mx gi n p) = r3 at HO C3 H4
  have step1 : True := trivial
  by_cases hall : r1 = true ∧ r2 = true ∧ r3 = true
  · obtain ⟨rfl, rfl, rfl⟩ := hall
    have HOK : Hid (ok = true) := Lib.hid HO.out
    rw [HOK.out] at HV HC
    obtain ⟨rfl, f1, f2, f3, f4⟩ := fit_in (H4.out rfl)
    have CT := Lib.hid (fun g w hg hA => spec_cost s x a mn mx gi A c p (M1.out rfl) (M2.out rfl) f1 f2 f3 f4 g w hg hA)
    clear H4 M1 M2 HO HOK f1 f2 f3 f4
    generalize ct mn mx gi p x a = R at HV HC CT
    go_enter Try.func15, Try.ntmps15
    go_wp2_with fail
    generalize hsz : w.heap.size = z at HW KX KA KF ⊢
    generalize ((w.alloc (laC s x 33)).alloc (ftC a 35)).alloc (fiC mn mx gi A 4 c 37) = w0 at HW KX KA KF ⊢
    rw [← hsz] at HW
    obtain ⟨x0, x1, x2, x3, x4, x5⟩ := Ge.blk6 KX.out
    go_wp2_with fail
    refine (C1.out _).mono ?_
    rintro e w1 ⟨rfl, b1⟩
    have HB1 := Lib.hid (below_then HW.out b1)
    have KX1 := Lib.hid (Ge.blk_keep b1 KX.out)
    have KA1 := Lib.hid (Ge.blk_keep b1 KA.out)
    have KF1 := Lib.hid (Ge.blk_keep b1 KF.out)
    clear b1 x0 x1 x2 x3 x4 x5 KX KA KF HW
    obtain ⟨y0, y1, y2, y3⟩ := Ge.blk4 KA1.out
    go_wp2_with fail
    refine (C2.out _).mono ?_
    rintro e w2 ⟨rfl, b2⟩
    have HB2 := Lib.hid (below_then HB1.out b2)
    have KX2 := Lib.hid (Ge.blk_keep b2 KX1.out)
    have KA2 := Lib.hid (Ge.blk_keep b2 KA1.out)
    have KF2 := Lib.hid (Ge.blk_keep b2 KF1.out)
    clear b2 y0 y1 y2 y3 KX1 KA1 KF1 HB1
    go_wp2_with fail
    refine (C3.out _ _ KF2.out ((HA.out.below HB2.out (Nat.le_refl _)).more HB2.out.size)).mono ?_
    rintro e w3 ⟨rfl, b3⟩
    have HB3 := Lib.hid (below_then HB2.out b3)
    have KX3 := Lib.hid (Ge.blk_keep b3 KX2.out)
    have KA3 := Lib.hid (Ge.blk_keep b3 KA2.out)
    have KF3 := Lib.hid (Ge.blk_keep b3 KF2.out)
    clear b3 KX2 KA2 KF2 HB2
    obtain ⟨x0, x1, x2, x3, x4, x5⟩ := Ge.blk6 KX3.out
    obtain ⟨y0, y1, y2, y3⟩ := Ge.blk4 KA3.out
    go_wp2_with fail
    refine (CT.out _ _ KF3.out ((HA.out.below HB3.out (Nat.le_refl _)).more HB3.out.size)).mono ?_
    rintro e w4 ⟨rfl, b4⟩
    have HB4 := Lib.hid (below_then HB3.out b4)
    clear b4 x0 x1 x2 x3 x4 x5 y0 y1 y2 y3
    go_wp2_with fail
    exact bodyPost_ret (v := .tuple #[.bool (decide (0 ≤ R)), .int .i64 0]) (by simp [results, Try.results15, go_sem]) rfl ⟨by rw [HV.out, HC.out]; simp, HB4.out⟩
  · have HOK : Hid (ok = false) := Lib.hid (by rw [HO.out]; cases r1 <;> cases r2 <;> cases r3 <;> simp_all)
    have HVN : Hid (V = false) := Lib.hid (by rw [HV.out, HOK.out]; simp)
    have HCN : Hid (CC = 1) := Lib.hid (by rw [HC.out, HOK.out]; simp)
    have R : r1 = false ∨ (r1 = true ∧ r2 = false) ∨ (r1 = true ∧ r2 = true ∧ r3 = false) := by cases r1 <;> cases r2 <;> cases r3 <;> simp_all
    clear hall HO HV HC HOK M1 M2 H4
    rcases R with rfl | ⟨rfl, rfl⟩ | ⟨rfl, rfl, rfl⟩
    all_goals
      go_enter Try.func15, Try.ntmps15
      go_wp2_with fail
      generalize hsz : w.heap.size = z at HW KX KA KF ⊢
      generalize ((w.alloc (laC s x 33)).alloc (ftC a 35)).alloc (fiC mn mx gi A n c 37) = w0 at HW KX KA KF ⊢
      rw [← hsz] at HW
      obtain ⟨x0, x1, x2, x3, x4, x5⟩ := Ge.blk6 KX.out
      go_wp2_with fail
      refine (C1.out _).mono ?_
      rintro e w1 ⟨rfl, b1⟩
      have HB1 := Lib.hid (below_then HW.out b1)
      have KA1 := Lib.hid (Ge.blk_keep b1 KA.out)
      have KF1 := Lib.hid (Ge.blk_keep b1 KF.out)
      clear b1 x0 x1 x2 x3 x4 x5 KX KA KF HW
      obtain ⟨y0, y1, y2, y3⟩ := Ge.blk4 KA1.out
      go_wp2_with fail
    · exact bodyPost_ret (v := .tuple #[.bool false, .int .i64 1]) (by simp [results, Try.results15, go_sem]) rfl ⟨by rw [HVN.out, HCN.out], HB1.out⟩
    all_goals
      refine (C2.out _).mono ?_
      rintro e w2 ⟨rfl, b2⟩
      have HB2 := Lib.hid (below_then HB1.out b2)
      have KF2 := Lib.hid (Ge.blk_keep b2 KF1.out)
      clear b2 y0 y1 y2 y3 KA1 KF1 HB1
      go_wp2_with fail
    · exact bodyPost_ret (v := .tuple #[.bool false, .int .i64 1]) (by simp [results, Try.results15, go_sem]) rfl ⟨by rw [HVN.out, HCN.out], HB2.out⟩
    refine (C3.out _ _ KF2.out ((HA.out.below HB2.out (Nat.le_refl _)).more HB2.out.size)).mono ?_
    rintro e w3 ⟨rfl, b3⟩
    have HB3 := Lib.hid (below_then HB2.out b3)
    clear b3
    go_wp2_with fail
    exact bodyPost_ret (v := .tuple #[.bool false, .int .i64 1]) (by simp [results, Try.results15, go_sem]) rfl ⟨by rw [HVN.out, HCN.out], HB3.out⟩

def TwoFitCost (v : Int) (cd : Int) (w : World) (e : Ending) (w' : World) : Prop := e = .returned (.tuple #[.int .i64 v, .int .i64 cd]) ∧ Below w.heap.size w w'
set_option maxRecDepth 100000 in
set_option maxHeartbeats 4000000 in
theorem spec_FitCost (s : ByteArray) (x a : Nat → Int) (mn mx gi : Int) (A : Option Addr) (n c : Nat) (p : Nat → Int) (hs : s.size ≤ maxLen) (hn : n ≤ 1048576) (w : World) (hA : Nums w w.heap.size A n p) :
    Calls Try.prog 21 #[laV s x, ftV a, fitV mn mx gi A n c] w (TwoFitCost (costV s x a mn mx gi n p) (costC s x a mn mx gi n p) w) := by
  have C1 := Lib.hid (fun w => one_spec s x hs w)
  have C2 := Lib.hid (fun w => foot_any (a 0) (a 1) (a 2) (a 3) w)
  have C3 := Lib.hid (fun g w hg hA => (spec_fit mn mx gi A n c p hn g w hg hA).mono fun _ _ t => tells_tv t)
  have HA := Lib.hid hA
  obtain ⟨kx, ka, kf⟩ := three w (laC s x 33) (ftC a 35) (fiC mn mx gi A n c 37)
  have HW := Lib.hid (below3 w (laC s x 33) (ftC a 35) (fiC mn mx gi A n c 37))
  have KX := Lib.hid kx
  have KA := Lib.hid ka
  have KF := Lib.hid kf
  clear kx ka kf hA
  have HV : Hid (costV s x a mn mx gi n p = (if okB s x a mn mx gi n p && decide (0 ≤ ct mn mx gi p x a) then ct mn mx gi p x a else 0)) := Lib.hid rfl
  have HC : Hid (costC s x a mn mx gi n p = (if okB s x a mn mx gi n p then (if 0 ≤ ct mn mx gi p x a then 0 else 10) else 1)) := Lib.hid rfl
  have HO : Hid (okB s x a mn mx gi n p = (laB s x && (ftB (a 0) (a 1) (a 2) (a 3) && tv (FitOk mn mx gi n p)))) := Lib.hid rfl
  have H4 : Hid (tv (FitOk mn mx gi n p) = true → FitOk mn mx gi n p) := Lib.hid tv_iff.1
  have M1 : Hid (laB s x = true → Mild x) := Lib.hid mild_of_la
  have M2 : Hid (ftB (a 0) (a 1) (a 2) (a 3) = true → Mild a) := Lib.hid mild_of_ft
  generalize costV s x a mn mx gi n p = V at HV ⊢
  generalize costC s x a mn mx gi n p = CC at HC ⊢
  generalize okB s x a mn mx gi n p = ok at HO HV HC
  generalize laB s x = r1 at HO C1 M1
  generalize ftB (a 0) (a 1) (a 2) (a 3) = r2 at HO C2 M2
  generalize tv (FitOk mn mx gi n p) = r3 at HO C3 H4
  have step1 : True := trivial
  by_cases hall : r1 = true ∧ r2 = true ∧ r3 = true
  · obtain ⟨rfl, rfl, rfl⟩ := hall
    have HOK : Hid (ok = true) := Lib.hid HO.out
    rw [HOK.out] at HV HC
    obtain ⟨rfl, f1, f2, f3, f4⟩ := fit_in (H4.out rfl)
    have CT := Lib.hid (fun g w hg hA => spec_cost s x a mn mx gi A c p (M1.out rfl) (M2.out rfl) f1 f2 f3 f4 g w hg hA)
    clear H4 M1 M2 HO HOK f1 f2 f3 f4
    generalize ct mn mx gi p x a = R at HV HC CT
    go_enter Try.func21, Try.ntmps21
    go_wp2_with fail
    generalize hsz : w.heap.size = z at HW KX KA KF ⊢
    generalize ((w.alloc (laC s x 33)).alloc (ftC a 35)).alloc (fiC mn mx gi A 4 c 37) = w0 at HW KX KA KF ⊢
    rw [← hsz] at HW
    obtain ⟨x0, x1, x2, x3, x4, x5⟩ := Ge.blk6 KX.out
    go_wp2_with fail
    refine (C1.out _).mono ?_
    rintro e w1 ⟨rfl, b1⟩
    have HB1 := Lib.hid (below_then HW.out b1)
    have KX1 := Lib.hid (Ge.blk_keep b1 KX.out)
    have KA1 := Lib.hid (Ge.blk_keep b1 KA.out)
    have KF1 := Lib.hid (Ge.blk_keep b1 KF.out)
    clear b1 x0 x1 x2 x3 x4 x5 KX KA KF HW
    obtain ⟨y0, y1, y2, y3⟩ := Ge.blk4 KA1.out
    go_wp2_with fail
    refine (C2.out _).mono ?_
    rintro e w2 ⟨rfl, b2⟩
    have HB2 := Lib.hid (below_then HB1.out b2)
    have KX2 := Lib.hid (Ge.blk_keep b2 KX1.out)
    have KA2 := Lib.hid (Ge.blk_keep b2 KA1.out)
    have KF2 := Lib.hid (Ge.blk_keep b2 KF1.out)
    clear b2 y0 y1 y2 y3 KX1 KA1 KF1 HB1
    go_wp2_with fail
    refine (C3.out _ _ KF2.out ((HA.out.below HB2.out (Nat.le_refl _)).more HB2.out.size)).mono ?_
    rintro e w3 ⟨rfl, b3⟩
    have HB3 := Lib.hid (below_then HB2.out b3)
    have KX3 := Lib.hid (Ge.blk_keep b3 KX2.out)
    have KA3 := Lib.hid (Ge.blk_keep b3 KA2.out)
    have KF3 := Lib.hid (Ge.blk_keep b3 KF2.out)
    clear b3 KX2 KA2 KF2 HB2
    obtain ⟨x0, x1, x2, x3, x4, x5⟩ := Ge.blk6 KX3.out
    obtain ⟨y0, y1, y2, y3⟩ := Ge.blk4 KA3.out
    go_wp2_with fail
    refine (CT.out _ _ KF3.out ((HA.out.below HB3.out (Nat.le_refl _)).more HB3.out.size)).mono ?_
    rintro e w4 ⟨rfl, b4⟩
    have HB4 := Lib.hid (below_then HB3.out b4)
    clear b4 x0 x1 x2 x3 x4 x5 y0 y1 y2 y3
    by_cases hR : R < 0
    · have HV' : Hid (V = 0) := Lib.hid (by rw [HV.out]; simp; omega)
      have HC' : Hid (CC = 10) := Lib.hid (by rw [HC.out]; simp; omega)
      go_wp2_with fail
      exact bodyPost_ret (v := .tuple #[.int .i64 0, .int .i64 10]) (by simp [results, Try.results21, go_sem]) rfl ⟨by rw [HV'.out, HC'.out], HB4.out⟩
    · have HV' : Hid (V = R) := Lib.hid (by rw [HV.out]; simp; omega)
      have HC' : Hid (CC = 0) := Lib.hid (by rw [HC.out]; simp; omega)
      go_wp2_with fail
      exact bodyPost_ret (v := .tuple #[.int .i64 R, .int .i64 0]) (by simp [results, Try.results21, go_sem]) rfl ⟨by rw [HV'.out, HC'.out], HB4.out⟩
  · have HOK : Hid (ok = false) := Lib.hid (by rw [HO.out]; cases r1 <;> cases r2 <;> cases r3 <;> simp_all)
    have HVN : Hid (V = 0) := Lib.hid (by rw [HV.out, HOK.out]; simp)
    have HCN : Hid (CC = 1) := Lib.hid (by rw [HC.out, HOK.out]; simp)
    have R : r1 = false ∨ (r1 = true ∧ r2 = false) ∨ (r1 = true ∧ r2 = true ∧ r3 = false) := by cases r1 <;> cases r2 <;> cases r3 <;> simp_all
    clear hall HO HV HC HOK M1 M2 H4
    rcases R with rfl | ⟨rfl, rfl⟩ | ⟨rfl, rfl, rfl⟩
    all_goals
      go_enter Try.func21, Try.ntmps21
      go_wp2_with fail
      generalize hsz : w.heap.size = z at HW KX KA KF ⊢
      generalize ((w.alloc (laC s x 33)).alloc (ftC a 35)).alloc (fiC mn mx gi A n c 37) = w0 at HW KX KA KF ⊢
      rw [← hsz] at HW
      obtain ⟨x0, x1, x2, x3, x4, x5⟩ := Ge.blk6 KX.out
      go_wp2_with fail
      refine (C1.out _).mono ?_
      rintro e w1 ⟨rfl, b1⟩
      have HB1 := Lib.hid (below_then HW.out b1)
      have KA1 := Lib.hid (Ge.blk_keep b1 KA.out)
      have KF1 := Lib.hid (Ge.blk_keep b1 KF.out)
      clear b1 x0 x1 x2 x3 x4 x5 KX KA KF HW
      obtain ⟨y0, y1, y2, y3⟩ := Ge.blk4 KA1.out
      go_wp2_with fail
    · exact bodyPost_ret (v := .tuple #[.int .i64 0, .int .i64 1]) (by simp [results, Try.results21, go_sem]) rfl ⟨by rw [HVN.out, HCN.out], HB1.out⟩
    all_goals
      refine (C2.out _).mono ?_
      rintro e w2 ⟨rfl, b2⟩
      have HB2 := Lib.hid (below_then HB1.out b2)
      have KF2 := Lib.hid (Ge.blk_keep b2 KF1.out)
      clear b2 y0 y1 y2 y3 KA1 KF1 HB1
      go_wp2_with fail
    · exact bodyPost_ret (v := .tuple #[.int .i64 0, .int .i64 1]) (by simp [results, Try.results21, go_sem]) rfl ⟨by rw [HVN.out, HCN.out], HB2.out⟩
    refine (C3.out _ _ KF2.out ((HA.out.below HB2.out (Nat.le_refl _)).more HB2.out.size)).mono ?_
    rintro e w3 ⟨rfl, b3⟩
    have HB3 := Lib.hid (below_then HB2.out b3)
    clear b3
    go_wp2_with fail
    exact bodyPost_ret (v := .tuple #[.int .i64 0, .int .i64 1]) (by simp [results, Try.results21, go_sem]) rfl ⟨by rw [HVN.out, HCN.out], HB3.out⟩
end Go.Proofs.Ytaoknbhpjnileab.Co
