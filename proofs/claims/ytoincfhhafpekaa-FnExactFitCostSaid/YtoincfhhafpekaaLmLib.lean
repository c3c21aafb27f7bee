/- Both functions LastNamed. -/
import Derived.Test.YtoincfhhafpekaaPlLib
namespace Go.Proofs.Ytoincfhhafpekaa.Lm
open Go.RowKit Ft Ge Qb La Ll Lv Pl

/-- The code of arguments. -/
def argE (v r : Bool) : Int := if v then (if r then 0 else 2) else 1
theorem arg_any (v r : Bool) (w : World) : Calls Try.prog 85 #[.bool v, .bool r] w fun e w' => e = .returned (.int .i64 (argE v r)) ∧ w = w' := by
  cases v <;> cases r
  all_goals
    go_enter Try.func85, Try.ntmps85
    go_wp2
    go_ret
    exact ⟨rfl, rfl⟩
/-- What LastNamed answers. -/
noncomputable def lv (n : Nat) (N : Nat → ByteArray) (F : Nat → Nat → Int) (s : ByteArray) : Int := if tv (LOk n N F) = true then (if nmB s = true then (if thr n N s = true then (pl n N s : Int) else 0) else 0) else 0
noncomputable def lc (n : Nat) (N : Nat → ByteArray) (F : Nat → Nat → Int) (s : ByteArray) : Int := if tv (LOk n N F) = true then (if nmB s = true then (if thr n N s = true then 0 else 3) else 2) else 1
/-- Two numbers. -/
def TwoAt (a b : Int) (w : World) (e : Ending) (w' : World) : Prop := e = .returned (.tuple #[.int .i64 a, .int .i64 b]) ∧ Below w.heap.size w w'
theorem two_of {w w' : World} {a b a' b' : Int} (ha : a = a') (hb : b = b') (h : Below w.heap.size w w') : TwoAt a' b' w (.returned (.tuple #[.int .i64 a, .int .i64 b])) w' := by
  subst ha hb
  exact ⟨rfl, h⟩
theorem lr_one {n : Nat} {N : Nat → ByteArray} {F : Nat → Nat → Int} {s : ByteArray} (h : ¬ LOk n N F) : 0 = lv n N F s ∧ 1 = lc n N F s := by simp [lv, lc, tv_no h]
theorem lr_two {n : Nat} {N : Nat → ByteArray} {F : Nat → Nat → Int} {s : ByteArray} (h : LOk n N F) (hm : nmB s = false) : 0 = lv n N F s ∧ 2 = lc n N F s := by simp [lv, lc, tv_yes h, hm]
theorem lr_no {n : Nat} {N : Nat → ByteArray} {F : Nat → Nat → Int} {s : ByteArray} (h : LOk n N F) (hm : nmB s = true) (ht : thr n N s = false) : 0 = lv n N F s ∧ 3 = lc n N F s := by simp [lv, lc, tv_yes h, hm, ht]
theorem lr_yes {n : Nat} {N : Nat → ByteArray} {F : Nat → Nat → Int} {s : ByteArray} (h : LOk n N F) (hm : nmB s = true) (ht : thr n N s = true) : (pl n N s : Int) = lv n N F s ∧ 0 = lc n N F s := by simp [lv, lc, tv_yes h, hm, ht]

theorem spec_named (A : Option Addr) (n c : Nat) (N : Nat → ByteArray) (F : Nat → Nat → Int) (s : ByteArray) (hs : s.size ≤ maxLen) (hn : n ≤ 1048576) (w : World) (hA : Lasts w w.heap.size A n N F) :
    Calls Try.prog 53 #[.slice A n c, .string s] w (TwoAt (lv n N F s) (lc n N F s) w) := by
  have HA := Lib.hid hA
  have C1 := Lib.hid (fun w h => (spec_ok A n c N F hn w h).mono fun _ _ t => tells_tv t)
  have C2 : Hid (∀ w, Calls Try.prog 89 #[.string s] w fun e w' => e = .returned (.bool (nmB s)) ∧ Below w.heap.size w w') := Lib.hid fun w => (Nm.spec_is s w hs).mono fun _ _ t => tells_tv t
  by_cases ho : LOk n N F
  case neg =>
    have HR := Lib.hid (lr_one (s := s) ho)
    rw [tv_no ho] at C1
    clear ho hA
    generalize lv n N F s = v at HR ⊢
    generalize lc n N F s = cd at HR ⊢
    go_enter Try.func53, Try.ntmps53
    go_wp2_with fail
    refine (C1.out _ HA.out).mono ?_
    rintro e w1 ⟨rfl, b1⟩
    have HB1 := Lib.hid b1
    clear b1
    go_wp2_with fail
    exact bodyPost_ret (v := .tuple #[.int .i64 0, .int .i64 1]) (by simp [results, Try.results53, go_sem]) rfl (two_of HR.out.1 HR.out.2 HB1.out)
  case pos =>
    rw [tv_yes ho] at C1
    have C3 := Lib.hid (fun w h => find_any A n c N F s hn ho.2.2 w h)
    cases hm : nmB s
    · have HR := Lib.hid (lr_two ho hm)
      rw [hm] at C2
      clear ho hA hm C3
      generalize lv n N F s = v at HR ⊢
      generalize lc n N F s = cd at HR ⊢
      go_enter Try.func53, Try.ntmps53
      go_wp2_with fail
      refine (C1.out _ HA.out).mono ?_
      rintro e w1 ⟨rfl, b1⟩
      have HB1 := Lib.hid b1
      clear b1
      go_wp2_with fail
      refine (C2.out _).mono ?_
      rintro e w2 ⟨rfl, b2⟩
      have HB2 := Lib.hid (below_then HB1.out b2)
      clear b2
      go_wp2_with fail
      exact bodyPost_ret (v := .tuple #[.int .i64 0, .int .i64 2]) (by simp [results, Try.results53, go_sem]) rfl (two_of HR.out.1 HR.out.2 HB2.out)
    · rw [hm] at C2
      cases ht : thr n N s
      · have HR := Lib.hid (lr_no ho hm ht)
        rw [ht] at C3
        simp only [Bool.false_eq_true, if_false] at C3
        clear ho hA hm ht
        generalize lv n N F s = v at HR ⊢
        generalize lc n N F s = cd at HR ⊢
        go_enter Try.func53, Try.ntmps53
        go_wp2_with fail
        refine (C1.out _ HA.out).mono ?_
        rintro e w1 ⟨rfl, b1⟩
        have HB1 := Lib.hid b1
        clear b1
        go_wp2_with fail
        refine (C2.out _).mono ?_
        rintro e w2 ⟨rfl, b2⟩
        have HB2 := Lib.hid (below_then HB1.out b2)
        clear b2
        go_wp2_with fail
        refine (C3.out _ ((HA.out.below HB2.out (Nat.le_refl _)).more HB2.out.size)).mono ?_
        rintro e w3 ⟨rfl, b3⟩
        have HB3 := Lib.hid (below_then HB2.out b3)
        clear b3
        go_wp2_with fail
        exact bodyPost_ret (v := .tuple #[.int .i64 0, .int .i64 3]) (by simp [results, Try.results53, go_sem]) rfl (two_of HR.out.1 HR.out.2 HB3.out)
      · have HR := Lib.hid (lr_yes ho hm ht)
        rw [ht] at C3
        simp only [if_true] at C3
        have hp : ¬ ((pl n N s : Nat) : Int) < 0 := by omega
        clear ho hA hm ht
        generalize pl n N s = p at HR C3 hp
        generalize lv n N F s = v at HR ⊢
        generalize lc n N F s = cd at HR ⊢
        go_enter Try.func53, Try.ntmps53
        go_wp2_with fail
        refine (C1.out _ HA.out).mono ?_
        rintro e w1 ⟨rfl, b1⟩
        have HB1 := Lib.hid b1
        clear b1
        go_wp2_with fail
        refine (C2.out _).mono ?_
        rintro e w2 ⟨rfl, b2⟩
        have HB2 := Lib.hid (below_then HB1.out b2)
        clear b2
        go_wp2_with fail
        refine (C3.out _ ((HA.out.below HB2.out (Nat.le_refl _)).more HB2.out.size)).mono ?_
        rintro e w3 ⟨rfl, b3⟩
        have HB3 := Lib.hid (below_then HB2.out b3)
        clear b3
        go_wp2_with fail
        exact bodyPost_ret (v := .tuple #[.int .i64 (p : Int), .int .i64 0]) (by simp [results, Try.results53, go_sem]) rfl (two_of HR.out.1 HR.out.2 HB3.out)

theorem impl_named (A : Option Addr) (n c : Nat) (N : Nat → ByteArray) (F : Nat → Nat → Int) (s : ByteArray) (hs : s.size ≤ maxLen) (hn : n ≤ 1048576) (w : World) (hA : Lasts w w.heap.size A n N F) :
    Calls Try.prog 54 #[.slice A n c, .string s] w (TwoAt (lv n N F s) (lc n N F s) w) := by
  have HA := Lib.hid hA
  have C1 := Lib.hid (fun w h => (impl_ok A n c N F hn w h).mono fun _ _ t => tells_tv t)
  have C2 : Hid (∀ w, Calls Try.prog 90 #[.string s] w fun e w' => e = .returned (.bool (nmB s)) ∧ Below w.heap.size w w') := Lib.hid fun w => (Nm.impl_is s w hs).mono fun _ _ t => tells_tv t
  have C0 := Lib.hid (fun v r w => arg_any v r w)
  by_cases ho : LOk n N F
  case neg =>
    have HR := Lib.hid (lr_one (s := s) ho)
    rw [tv_no ho] at C1
    generalize nmB s = m at C2
    have CA : Hid (∀ w, Calls Try.prog 85 #[.bool false, .bool m] w fun e w' => e = .returned (.int .i64 1) ∧ w = w') := Lib.hid fun w => arg_any false m w
    clear ho hA C0
    generalize lv n N F s = v at HR ⊢
    generalize lc n N F s = cd at HR ⊢
    go_enter Try.func54, Try.ntmps54
    go_wp2_with fail
    refine (C1.out _ HA.out).mono ?_
    rintro e w1 ⟨rfl, b1⟩
    have HB1 := Lib.hid b1
    clear b1
    go_wp2_with fail
    refine (C2.out _).mono ?_
    rintro e w2 ⟨rfl, b2⟩
    have HB2 := Lib.hid (below_then HB1.out b2)
    clear b2
    go_wp2_with fail
    refine (CA.out _).mono ?_
    rintro e w' ⟨rfl, rfl⟩
    go_wp2_with fail
    exact bodyPost_ret (v := .tuple #[.int .i64 0, .int .i64 1]) (by simp [results, Try.results54, go_sem]) rfl (two_of HR.out.1 HR.out.2 HB2.out)
  case pos =>
    rw [tv_yes ho] at C1
    have h30 := ho.1
    have C3 := Lib.hid (fun w h => place_any A n c N F s (by omega) ho.2.2 w h)
    cases hm : nmB s
    · have HR := Lib.hid (lr_two ho hm)
      rw [hm] at C2
      have CA : Hid (∀ w, Calls Try.prog 85 #[.bool true, .bool false] w fun e w' => e = .returned (.int .i64 2) ∧ w = w') := Lib.hid fun w => arg_any true false w
      clear ho hA hm C3 C0
      generalize lv n N F s = v at HR ⊢
      generalize lc n N F s = cd at HR ⊢
      go_enter Try.func54, Try.ntmps54
      go_wp2_with fail
      refine (C1.out _ HA.out).mono ?_
      rintro e w1 ⟨rfl, b1⟩
      have HB1 := Lib.hid b1
      clear b1
      go_wp2_with fail
      refine (C2.out _).mono ?_
      rintro e w2 ⟨rfl, b2⟩
      have HB2 := Lib.hid (below_then HB1.out b2)
      clear b2
      go_wp2_with fail
      refine (CA.out _).mono ?_
      rintro e w' ⟨rfl, rfl⟩
      go_wp2_with fail
      exact bodyPost_ret (v := .tuple #[.int .i64 0, .int .i64 2]) (by simp [results, Try.results54, go_sem]) rfl (two_of HR.out.1 HR.out.2 HB2.out)
    · rw [hm] at C2
      have CA : Hid (∀ w, Calls Try.prog 85 #[.bool true, .bool true] w fun e w' => e = .returned (.int .i64 0) ∧ w = w') := Lib.hid fun w => arg_any true true w
      cases ht : thr n N s
      · have HR := Lib.hid (lr_no ho hm ht)
        rw [ht] at C3
        clear ho hA hm ht C0
        generalize pl n N s = p at C3
        generalize lv n N F s = v at HR ⊢
        generalize lc n N F s = cd at HR ⊢
        go_enter Try.func54, Try.ntmps54
        go_wp2_with fail
        refine (C1.out _ HA.out).mono ?_
        rintro e w1 ⟨rfl, b1⟩
        have HB1 := Lib.hid b1
        clear b1
        go_wp2_with fail
        refine (C2.out _).mono ?_
        rintro e w2 ⟨rfl, b2⟩
        have HB2 := Lib.hid (below_then HB1.out b2)
        clear b2
        go_wp2_with fail
        refine (CA.out _).mono ?_
        rintro e w' ⟨rfl, rfl⟩
        go_wp2_with fail
        refine (C3.out _ ((HA.out.below HB2.out (Nat.le_refl _)).more HB2.out.size)).mono ?_
        rintro e w3 ⟨rfl, b3⟩
        have HB3 := Lib.hid (below_then HB2.out b3)
        clear b3
        go_wp2_with fail
        exact bodyPost_ret (v := .tuple #[.int .i64 0, .int .i64 3]) (by simp [results, Try.results54, go_sem]) rfl (two_of HR.out.1 HR.out.2 HB3.out)
      · have HR := Lib.hid (lr_yes ho hm ht)
        rw [ht] at C3
        clear ho hA hm ht C0
        generalize pl n N s = p at C3 HR
        generalize lv n N F s = v at HR ⊢
        generalize lc n N F s = cd at HR ⊢
        go_enter Try.func54, Try.ntmps54
        go_wp2_with fail
        refine (C1.out _ HA.out).mono ?_
        rintro e w1 ⟨rfl, b1⟩
        have HB1 := Lib.hid b1
        clear b1
        go_wp2_with fail
        refine (C2.out _).mono ?_
        rintro e w2 ⟨rfl, b2⟩
        have HB2 := Lib.hid (below_then HB1.out b2)
        clear b2
        go_wp2_with fail
        refine (CA.out _).mono ?_
        rintro e w' ⟨rfl, rfl⟩
        go_wp2_with fail
        refine (C3.out _ ((HA.out.below HB2.out (Nat.le_refl _)).more HB2.out.size)).mono ?_
        rintro e w3 ⟨rfl, b3⟩
        have HB3 := Lib.hid (below_then HB2.out b3)
        clear b3
        go_wp2_with fail
        exact bodyPost_ret (v := .tuple #[.int .i64 (p : Int), .int .i64 0]) (by simp [results, Try.results54, go_sem]) rfl (two_of HR.out.1 HR.out.2 HB3.out)
end Go.Proofs.Ytoincfhhafpekaa.Lm
