/- Lasts: the law's copy, measure and comparison of one; whether one is valid (spec and program). -/
import Derived.Test.YtpmmfalpcooenabGeLib
import Derived.Test.YtpmmfalpcooenabQbLib
import Derived.Test.YtpmmfalpcooenabNmWalks
import Derived.RegionTactic
import Derived.Laws.StructEq
namespace Go.Proofs.Ytpmmfalpcooenab.La
open Go.RowKit Ft Ge Qb

/-- A name. -/
noncomputable def nmB (s : ByteArray) : Bool := tv (Nm.IsNm s)
/-- A last that is valid. -/
noncomputable def laB (s : ByteArray) (f : Nat → Int) : Bool := nmB s && (ftB (f 0) (f 1) (f 2) (f 3) && inB (f 4) 0 1000)
/-- A last. -/
abbrev laV (s : ByteArray) (f : Nat → Int) : Value := .agg #[.string s, .int .i64 (f 0), .int .i64 (f 1), .int .i64 (f 2), .int .i64 (f 3), .int .i64 (f 4)]
/-- Its cells. -/
abbrev laC (s : ByteArray) (f : Nat → Int) (t : TypeId) : Obj := .cells #[.string s, .int .i64 (f 0), .int .i64 (f 1), .int .i64 (f 2), .int .i64 (f 3), .int .i64 (f 4)] t
theorem to_last (s : ByteArray) (f : Nat → Int) (w : World) : Calls Try.prog 41 #[laV s f] w fun e w' => e = .returned (laV s f) ∧ Below w.heap.size w w' := by
  unfold laV
  generalize f 0 = f0, f 1 = f1, f 2 = f2, f 3 = f3, f 4 = f4
  go_enter Try.func41, Try.ntmps41
  go_wp2
  exact bodyPost_ret (v := .agg #[.string s, .int .i64 f0, .int .i64 f1, .int .i64 f2, .int .i64 f3, .int .i64 f4]) (by simp [results, Try.results41, go_sem]) rfl ⟨rfl, by repeat (first | exact Below.refl _ _ | exact below_box _ _ | refine Below.setCell ?_ (by simp <;> omega) _ | refine Below.alloc ?_ (by simp <;> omega) _)⟩
theorem sz_last (s : ByteArray) (f : Nat → Int) (l : Int) (hs : (s.size : Int) ≤ l) (hl : l ≤ 1048576) (w : World) : Calls Try.prog 39 #[laV s f, .int .i64 l] w fun e w' => e = .returned (.int .i64 (l - s.size)) ∧ Below w.heap.size w w' := by
  have h0 : ¬ l - s.size < 0 := by omega
  unfold laV
  go_enter Try.func39, Try.ntmps39
  go_wp2_with fail
  go_ret
  exact ⟨rfl, below_box _ _⟩
theorem sz_last_big (s : ByteArray) (f : Nat → Int) (l : Int) (hs : l < (s.size : Int)) (hm : s.size ≤ maxLen) (hl0 : 0 ≤ l) (hl : l ≤ 1048576) (w : World) : Calls Try.prog 39 #[laV s f, .int .i64 l] w fun e w' => e = .returned (.int .i64 (-1)) ∧ Below w.heap.size w w' := by
  unfold maxLen at hm
  have h0 : l - s.size < 0 := by omega
  unfold laV
  go_enter Try.func39, Try.ntmps39
  go_wp2_with fail
  go_ret
  exact ⟨rfl, below_box _ _⟩
/-- Two lasts are equal. -/
def eq6 (s s' : ByteArray) (a b : Nat → Int) : Bool := (s.toList == s'.toList) && (a 0 == b 0 && (a 1 == b 1 && (a 2 == b 2 && (a 3 == b 3 && a 4 == b 4))))
theorem eq6_self (s : ByteArray) (a : Nat → Int) : eq6 s s a a = true := by simp [eq6]
theorem eq_last_same (s : ByteArray) (a : Nat → Int) (w : World) : Calls Try.prog 43 #[laV s a, laV s a] w fun e w' => e = .returned (.bool true) ∧ Below w.heap.size w w' := by
  unfold laV
  generalize a 0 = a0, a 1 = a1, a 2 = a2, a 3 = a3, a 4 = a4
  go_enter Try.func43, Try.ntmps43
  go_wp2
  go_ret
  exact ⟨rfl, by repeat (first | exact Below.refl _ _ | exact below_box _ _ | refine Below.alloc ?_ (by simp <;> omega) _)⟩
theorem foot_spec (s : ByteArray) (f : Nat → Int) (w : World) : Calls Try.prog 124 #[laV s f] w fun e w' => e = .returned (.agg #[.int .i64 (f 0), .int .i64 (f 1), .int .i64 (f 2), .int .i64 (f 3)]) ∧ Below w.heap.size w w' := by
  unfold laV
  generalize f 0 = f0, f 1 = f1, f 2 = f2, f 3 = f3, f 4 = f4
  go_enter Try.func124, Try.ntmps124
  go_wp2
  exact bodyPost_ret (v := .agg #[.int .i64 f0, .int .i64 f1, .int .i64 f2, .int .i64 f3]) (by simp [results, Try.results124, go_sem]) rfl ⟨rfl, by repeat (first | exact Below.refl _ _ | exact below_box _ _ | refine Below.setCell ?_ (by simp <;> omega) _ | refine Below.drew ?_ | refine Below.alloc ?_ (by simp <;> omega) _)⟩
theorem foot_impl (s : ByteArray) (f : Nat → Int) (w : World) : Calls Try.prog 126 #[laV s f] w fun e w' => e = .returned (.agg #[.int .i64 (f 0), .int .i64 (f 1), .int .i64 (f 2), .int .i64 (f 3)]) ∧ Below w.heap.size w w' := by
  unfold laV
  generalize f 0 = f0, f 1 = f1, f 2 = f2, f 3 = f3, f 4 = f4
  go_enter Try.func126, Try.ntmps126
  go_wp2
  exact bodyPost_ret (v := .agg #[.int .i64 f0, .int .i64 f1, .int .i64 f2, .int .i64 f3]) (by simp [results, Try.results126, go_sem]) rfl ⟨rfl, by repeat (first | exact Below.refl _ _ | exact below_box _ _ | refine Below.setCell ?_ (by simp <;> omega) _ | refine Below.drew ?_ | refine Below.alloc ?_ (by simp <;> omega) _)⟩
theorem within_any (n a b : Int) (w : World) : Calls Try.prog 69 #[.int .i64 n, .int .i64 a, .int .i64 b] w fun e w' => e = .returned (.bool (inB n a b)) ∧ w = w' := by
  by_cases h1 : a ≤ n <;> by_cases h2 : n ≤ b
  all_goals
    go_enter Try.func69, Try.ntmps69
    go_wp2
    go_ret
    exact ⟨by simp [inB, h1, h2], rfl⟩
set_option maxRecDepth 100000 in
theorem one_spec (s : ByteArray) (f : Nat → Int) (hs : s.size ≤ maxLen) (w : World) : Calls Try.prog 85 #[laV s f] w fun e w' => e = .returned (.bool (laB s f)) ∧ Below w.heap.size w w' := by
  have K := heap_alloc_new w (laC s f 53)
  have HB := Lib.hid (below_box w (laC s f 53))
  have C1 : Hid (∀ w, Calls Try.prog 123 #[.string s] w fun e w' => e = .returned (.bool (nmB s)) ∧ Below w.heap.size w w') := Lib.hid fun w => (Nm.spec_is s w hs).mono fun _ _ t => tells_tv t
  have C2 := Lib.hid (fun w => foot_spec s f w)
  have C3 := Lib.hid (fun w => foot_any (f 0) (f 1) (f 2) (f 3) w)
  have C4 := Lib.hid (fun w => in_any (f 4) 0 1000 w)
  unfold laB
  generalize nmB s = r1 at C1 ⊢
  generalize ftB (f 0) (f 1) (f 2) (f 3) = r2 at C3 ⊢
  generalize inB (f 4) 0 1000 = r3 at C4 ⊢
  unfold laV at C2 ⊢
  unfold laC at K HB
  generalize f 0 = f0, f 1 = f1, f 2 = f2, f 3 = f3, f 4 = f4 at *
  have KW := Lib.hid K
  clear K
  cases r1
  · go_enter Try.func85, Try.ntmps85
    go_wp2_with fail
    refine (C1.out _).mono ?_
    rintro e w1 ⟨rfl, b1⟩
    have HB1 := Lib.hid (below_then HB.out b1)
    clear b1
    go_wp2_with fail
    go_ret
    exact ⟨rfl, HB1.out⟩
  · go_enter Try.func85, Try.ntmps85
    go_wp2_with fail
    refine (C1.out _).mono ?_
    rintro e w1 ⟨rfl, b1⟩
    have HB1 := Lib.hid (below_then HB.out b1)
    have K1 := Lib.hid (blk_keep b1 KW.out)
    clear b1
    obtain ⟨x0, x1, x2, x3, x4, x5⟩ := blk6 K1.out
    go_wp2_with fail
    refine (C2.out _).mono ?_
    rintro e w2 ⟨rfl, b2⟩
    have HB2 := Lib.hid (below_then HB1.out b2)
    have K2 := Lib.hid (blk_keep b2 K1.out)
    clear b2 x0 x1 x2 x3 x4 x5
    go_wp2_with fail
    refine (C3.out _).mono ?_
    rintro e w3 ⟨rfl, b3⟩
    have HB3 := Lib.hid (below_then HB2.out b3)
    have K3 := Lib.hid (blk_keep b3 K2.out)
    clear b3
    cases r2
    · go_wp2_with fail
      go_ret
      exact ⟨rfl, HB3.out⟩
    · obtain ⟨x0, x1, x2, x3, x4, x5⟩ := blk6 K3.out
      go_wp2_with fail
      refine (C4.out _).mono ?_
      rintro e w' ⟨rfl, rfl⟩
      go_wp2_with fail
      go_ret
      exact ⟨rfl, HB3.out⟩
set_option maxRecDepth 100000 in
theorem one_impl (s : ByteArray) (f : Nat → Int) (hs : s.size ≤ maxLen) (w : World) : Calls Try.prog 87 #[laV s f] w fun e w' => e = .returned (.bool (laB s f)) ∧ Below w.heap.size w w' := by
  have K := heap_alloc_new w (laC s f 53)
  have HB := Lib.hid (below_box w (laC s f 53))
  have C1 : Hid (∀ w, Calls Try.prog 125 #[.string s] w fun e w' => e = .returned (.bool (nmB s)) ∧ Below w.heap.size w w') := Lib.hid fun w => (Nm.impl_is s w hs).mono fun _ _ t => tells_tv t
  have C2 := Lib.hid (fun w => foot_impl s f w)
  have C3 := Lib.hid (fun w => impl_valid (f 0) (f 1) (f 2) (f 3) w)
  have C4 := Lib.hid (fun w => within_any (f 4) 0 1000 w)
  unfold laB
  generalize nmB s = r1 at C1 ⊢
  generalize ftB (f 0) (f 1) (f 2) (f 3) = r2 at C3 ⊢
  generalize inB (f 4) 0 1000 = r3 at C4 ⊢
  unfold laV at C2 ⊢
  unfold laC at K HB
  generalize f 0 = f0, f 1 = f1, f 2 = f2, f 3 = f3, f 4 = f4 at *
  have KW := Lib.hid K
  clear K
  cases r1
  · go_enter Try.func87, Try.ntmps87
    go_wp2_with fail
    refine (C1.out _).mono ?_
    rintro e w1 ⟨rfl, b1⟩
    have HB1 := Lib.hid (below_then HB.out b1)
    clear b1
    go_wp2_with fail
    go_ret
    exact ⟨rfl, HB1.out⟩
  · go_enter Try.func87, Try.ntmps87
    go_wp2_with fail
    refine (C1.out _).mono ?_
    rintro e w1 ⟨rfl, b1⟩
    have HB1 := Lib.hid (below_then HB.out b1)
    have K1 := Lib.hid (blk_keep b1 KW.out)
    clear b1
    obtain ⟨x0, x1, x2, x3, x4, x5⟩ := blk6 K1.out
    go_wp2_with fail
    refine (C2.out _).mono ?_
    rintro e w2 ⟨rfl, b2⟩
    have HB2 := Lib.hid (below_then HB1.out b2)
    have K2 := Lib.hid (blk_keep b2 K1.out)
    clear b2 x0 x1 x2 x3 x4 x5
    go_wp2_with fail
    refine (C3.out _).mono ?_
    rintro e w3 ⟨rfl, b3⟩
    have HB3 := Lib.hid (below_then HB2.out b3)
    have K3 := Lib.hid (blk_keep b3 K2.out)
    clear b3
    cases r2
    · go_wp2_with fail
      go_ret
      exact ⟨rfl, HB3.out⟩
    · obtain ⟨x0, x1, x2, x3, x4, x5⟩ := blk6 K3.out
      go_wp2_with fail
      refine (C4.out _).mono ?_
      rintro e w' ⟨rfl, rfl⟩
      go_wp2_with fail
      go_ret
      exact ⟨rfl, HB3.out⟩
end Go.Proofs.Ytpmmfalpcooenab.La
