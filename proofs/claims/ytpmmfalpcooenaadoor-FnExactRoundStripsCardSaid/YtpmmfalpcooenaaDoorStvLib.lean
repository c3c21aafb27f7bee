/- Strips: which are valid, cut lengths: the spec's. -/
import Derived.Test.YtpmmfalpcooenaaDoorStrLib
import Derived.Test.YtpmmfalpcooenaaDoorBaLib
namespace Go.Proofs.YtpmmfalpcooenaaDoor.Stv
set_option linter.unusedVariables false
open Go.RowKit Ft Is Ge Qb

/-- A strip is valid. -/
def stB (a b c d : Int) : Bool := inB a 1 5000 && inB b 0 200 && inB c 0 200 && inB d 0 200
/-- Strips are valid. -/
def StP (n : Nat) (f : Nat → Int) : Prop := (∀ i, i < n → stB (f (i * 4)) (f (i * 4 + 1)) (f (i * 4 + 2)) (f (i * 4 + 3)) = true) ∧ 3 ≤ n ∧ n ≤ 12
/-- The cut length of a strip. -/
def clI (a b c d : Int) : Int := if b = 0 then a else a + c + d
def clD (f : Nat → Int) (i : Nat) : Int := clI (f (i * 4)) (f (i * 4 + 1)) (f (i * 4 + 2)) (f (i * 4 + 3))
theorem st_in {n : Nat} {f : Nat → Int} (h : StP n f) {i : Nat} (hi : i < n) : (1 ≤ f (i * 4) ∧ f (i * 4) ≤ 5000) ∧ (0 ≤ f (i * 4 + 1) ∧ f (i * 4 + 1) ≤ 200) ∧ (0 ≤ f (i * 4 + 2) ∧ f (i * 4 + 2) ≤ 200) ∧ (0 ≤ f (i * 4 + 3) ∧ f (i * 4 + 3) ≤ 200) := by
  have := h.1 i hi
  unfold stB at this
  simp only [Bool.and_eq_true] at this
  obtain ⟨⟨⟨h1, h2⟩, h3⟩, h4⟩ := this
  exact ⟨Ba.in_of h1, Ba.in_of h2, Ba.in_of h3, Ba.in_of h4⟩
theorem in_any (n a b : Int) (w : World) : Calls Tryd.prog 52 #[.int .i64 n, .int .i64 a, .int .i64 b] w fun e w' => e = .returned (.bool (inB n a b)) ∧ w = w' := Ba.in_any n a b w
theorem allow (n : Int) (w : World) : Calls Tryd.prog 53 #[.int .i64 n] w fun e w' => e = .returned (.bool (inB n 0 200)) ∧ w = w' := by
  go_enter Tryd.func53, Tryd.ntmps53
  go_wp2_with (go_at_call 52; refine (in_any _ _ _ _).mono ?_; rintro e w' ⟨rfl, rfl⟩)
  go_ret
  exact ⟨rfl, rfl⟩
theorem one (a b c d : Int) (g o : Nat) (w : World) (h0 : w.cell? ⟨g, o, none⟩ = some (.int .i64 a)) (h1 : w.cell? ⟨g, o + 1, none⟩ = some (.int .i64 b)) (h2 : w.cell? ⟨g, o + 2, none⟩ = some (.int .i64 c)) (h3 : w.cell? ⟨g, o + 3, none⟩ = some (.int .i64 d)) :
    Calls Tryd.prog 70 #[.pointer (some ⟨g, o, none⟩)] w fun e w' => e = .returned (.bool (stB a b c d)) ∧ w = w' := by
  have C0 := Lib.hid (in_any a 1 5000 w)
  have C1 := Lib.hid (allow b w)
  have C2 := Lib.hid (allow c w)
  have C3 := Lib.hid (allow d w)
  unfold stB
  generalize inB a 1 5000 = r0 at C0 ⊢
  generalize inB b 0 200 = r1 at C1 ⊢
  generalize inB c 0 200 = r2 at C2 ⊢
  generalize inB d 0 200 = r3 at C3 ⊢
  go_enter Tryd.func70, Tryd.ntmps70
  go_wp2_with fail
  refine C0.out.mono ?_
  rintro e w' ⟨rfl, rfl⟩
  cases r0
  · go_wp2_with fail
    go_ret
    exact ⟨rfl, rfl⟩
  go_wp2_with fail
  refine C1.out.mono ?_
  rintro e w' ⟨rfl, rfl⟩
  cases r1
  · go_wp2_with fail
    go_ret
    exact ⟨rfl, rfl⟩
  go_wp2_with fail
  refine C2.out.mono ?_
  rintro e w' ⟨rfl, rfl⟩
  cases r2
  · go_wp2_with fail
    go_ret
    exact ⟨rfl, rfl⟩
  go_wp2_with fail
  refine C3.out.mono ?_
  rintro e w' ⟨rfl, rfl⟩
  go_wp2_with fail
  go_ret
  exact ⟨rfl, rfl⟩
set_option maxRecDepth 100000 in
theorem ok (A : Option Addr) (n c : Nat) (f : Nat → Int) (hn : n ≤ 1048576) (w : World) (hA : Nums w w.heap.size A (n * 4) f) :
    Calls Tryd.prog 47 #[.slice A n c] w fun e w' => e = .returned (.bool (tv (StP n f))) ∧ w = w' := by
  have HA := Lib.hid hA
  have HN : Hid (∀ k, k < n → stB (f (k * 4)) (f (k * 4 + 1)) (f (k * 4 + 2)) (f (k * 4 + 3)) = false → tv (StP n f) = false) := Lib.hid fun k hk h => tv_no fun e => by rw [e.1 k hk] at h; cases h
  have HY : Hid ((∀ k, k < n → stB (f (k * 4)) (f (k * 4 + 1)) (f (k * 4 + 2)) (f (k * 4 + 3)) = true) → tv (StP n f) = inB (n : Int) 3 12) := Lib.hid fun h => by
    by_cases q : 3 ≤ n ∧ n ≤ 12
    · rw [tv_yes ⟨h, q⟩, in_yes (by omega) (by omega)]
    · rw [tv_no fun e => q e.2]
      by_cases q2 : (n : Int) < 3
      · rw [in_low q2]
      · rw [in_high (by omega)]
  have CI := Lib.hid (in_any (n : Int) 3 12 w)
  generalize tv (StP n f) = r at HN HY ⊢
  generalize inB (n : Int) 3 12 = r2 at HY CI
  clear hA
  go_enter Tryd.func47, Tryd.ntmps47
  go_wp2_with fail
  go_loop [3] (fun i => ∃ k : Nat, k ≤ n ∧ i = .int .i64 k ∧ Hid (∀ j, j < k → stB (f (j * 4)) (f (j * 4 + 1)) (f (j * 4 + 2)) (f (j * 4 + 3)) = true)) (fun i => n - (intOf i).toNat)
  case atStart => exact ⟨0, Nat.zero_le _, rfl, Lib.hid fun j hj => by omega⟩
  case round =>
    obtain ⟨k, hk, rfl, hall⟩ := hrel
    by_cases hlt : k < n
    · obtain ⟨b, off, rfl, hb, hc⟩ := HA.out (by omega)
      obtain ⟨x0, x1, x2, x3⟩ := Str.cells_at hc hlt
      have HNk := Lib.hid (HN.out k hlt)
      have HS := Lib.hid (fun h => step_all (p := fun j => stB (f (j * 4)) (f (j * 4 + 1)) (f (j * 4 + 2)) (f (j * 4 + 3))) hall.out (k := k) h)
      have C := Lib.hid (one _ _ _ _ b (off + k * 4) w x0 x1 x2 x3)
      have e0 : (0 : Int) ≤ (k : Int) := Int.natCast_nonneg _
      have e1 : (k : Int) < (n : Int) := by omega
      generalize stB (f (k * 4)) (f (k * 4 + 1)) (f (k * 4 + 2)) (f (k * 4 + 3)) = q at HNk HS C
      clear hc x0 x1 x2 x3 hk
      go_wp2_with fail
      refine C.out.mono ?_
      rintro e w' ⟨rfl, rfl⟩
      cases q
      · have HF := Lib.hid (HNk.out rfl)
        go_wp2_with fail
        go_ret
        exact ⟨Ba.ret_bool HF.out.symm, rfl⟩
      · have HD := Lib.hid (HS.out rfl)
        go_wp2_with fail
        go_round
        case rel => exact ⟨k + 1, by omega, by go_num, HD⟩
        case measure => simp [intOf]; omega
    · obtain rfl : k = n := by omega
      have HF := Lib.hid (HY.out hall.out)
      go_wp2_with fail
      refine CI.out.mono ?_
      rintro e w' ⟨rfl, rfl⟩
      go_wp2_with fail
      go_ret
      exact ⟨Ba.ret_bool HF.out.symm, rfl⟩
theorem cut (a b c d : Int) (ha : 1 ≤ a ∧ a ≤ 5000) (hc : 0 ≤ c ∧ c ≤ 200) (hd : 0 ≤ d ∧ d ≤ 200) (g o : Nat) (w : World) (h0 : w.cell? ⟨g, o, none⟩ = some (.int .i64 a)) (h1 : w.cell? ⟨g, o + 1, none⟩ = some (.int .i64 b)) (h2 : w.cell? ⟨g, o + 2, none⟩ = some (.int .i64 c)) (h3 : w.cell? ⟨g, o + 3, none⟩ = some (.int .i64 d)) :
    Calls Tryd.prog 49 #[.pointer (some ⟨g, o, none⟩)] w fun e w' => e = .returned (.int .i64 (clI a b c d)) ∧ Below w.heap.size w w' := by
  unfold clI
  by_cases hb : b = 0
  · subst hb
    rw [if_pos rfl]
    go_enter Tryd.func49, Tryd.ntmps49
    go_wp2_with fail
    go_ret
    exact ⟨rfl, Below.refl _ _⟩
  · rw [if_neg hb]
    have t1 : (b == 0) = false := by simpa using hb
    have t2 : IntKind.i64.wrap (a + c) = a + c := by rw [IntKind.wrap_i64]; omega
    have t3 : IntKind.i64.wrap (a + c + d) = a + c + d := by rw [IntKind.wrap_i64]; omega
    go_enter Tryd.func49, Tryd.ntmps49
    go_wp2_with fail
    all_goals (try go_quiet (fail))
    all_goals (try go_wp2_with fail)
    go_ret
    exact ⟨rfl, ⟨rfl, rfl, rfl, Nat.le_refl _, fun _ _ => rfl⟩⟩
theorem spec_vs (A : Option Addr) (n c : Nat) (f : Nat → Int) (hn : n ≤ 1048576) (w : World) (hA : Nums w w.heap.size A (n * 4) f) :
    Calls Tryd.prog 15 #[.slice A n c] w fun e w' => e = .returned (.bool (tv (StP n f))) ∧ Below w.heap.size w w' := by
  have C := Lib.hid (ok A n c f hn w hA)
  clear hA
  generalize tv (StP n f) = r at C ⊢
  go_enter Tryd.func15, Tryd.ntmps15
  go_wp2_with fail
  refine C.out.mono ?_
  rintro e w' ⟨rfl, rfl⟩
  go_wp2_with fail
  go_ret
  exact ⟨rfl, Below.refl _ _⟩
end Go.Proofs.YtpmmfalpcooenaaDoor.Stv
