/- Hides: the program's sets of fields, and the fields of a piece. -/
import Derived.Test.YtongfgikkcieaaaT1Lib
import Derived.Test.YtongfgikkcieaaaBwLib
import Derived.BigQuiet
import Derived.Laws.ShiftsVarLaws
import Derived.Deep.DeepCutAuto
namespace Go.Proofs.Ytongfgikkcieaaa.T2
set_option linter.unusedVariables false
open Go.RowKit Ft Is Ge Qb Hd Ts H2 T1
open Go.Proofs.Ytongfgikkcieaaa.Nm (byt byt_of)

abbrev hdV (n C : Int) (s : ByteArray) (a b c d : Nat) : Value := .agg #[.int .i64 n, .int .i64 C, .string s, .int .u64 (a : Int), .int .u64 (b : Int), .int .u64 (c : Int), .int .u64 (d : Int)]
abbrev hdC (n C : Int) (s : ByteArray) (a b c d : Nat) : Obj := .cells #[.int .i64 n, .int .i64 C, .string s, .int .u64 (a : Int), .int .u64 (b : Int), .int .u64 (c : Int), .int .u64 (d : Int)] 74
theorem blk7 {w : World} {g : Nat} {t : TypeId} {c0 c1 c2 c3 c4 c5 c6 : Value} (h : w.heap[g]? = some (.cells #[c0, c1, c2, c3, c4, c5, c6] t (0, 0))) :
    w.cell? ⟨g, 0, none⟩ = some c0 ∧ w.cell? ⟨g, 1, none⟩ = some c1 ∧ w.cell? ⟨g, 2, none⟩ = some c2 ∧ w.cell? ⟨g, 3, none⟩ = some c3 ∧ w.cell? ⟨g, 4, none⟩ = some c4 ∧ w.cell? ⟨g, 5, none⟩ = some c5 ∧ w.cell? ⟨g, 6, none⟩ = some c6 :=
  ⟨by rw [cell_of_row _ _ 0 _ _ _ h]; rfl, by rw [cell_of_row _ _ 1 _ _ _ h]; rfl, by rw [cell_of_row _ _ 2 _ _ _ h]; rfl, by rw [cell_of_row _ _ 3 _ _ _ h]; rfl, by rw [cell_of_row _ _ 4 _ _ _ h]; rfl, by rw [cell_of_row _ _ 5 _ _ _ h]; rfl, by rw [cell_of_row _ _ 6 _ _ _ h]; rfl⟩
theorem wrap_nat {x : Nat} (h : x < 2 ^ 64) : IntKind.u64.wrap (x : Int) = (x : Int) := by
  rw [IntKind.wrap_u64]
  omega
theorem pow_nat (t : Nat) : (2 : Int) ^ t = ((2 ^ t : Nat) : Int) := by simp
theorem wrap_pow {t : Nat} (h : t < 64) : IntKind.u64.wrap ((2 : Int) ^ t) = ((2 ^ t : Nat) : Int) := by
  rw [pow_nat]
  exact wrap_nat (Nat.pow_lt_pow_right (by omega) h)
theorem pow_lt64 {t : Nat} (h : t < 64) : 2 ^ t < 18446744073709551616 := Nat.pow_lt_pow_right (by omega) h
theorem and_bit (x t : Nat) (hx : x < 2 ^ 64) (ht : t < 64) : (bits BinOp.and IntKind.u64 (x : Int) (IntKind.u64.wrap ((2 : Int) ^ t)) != 0) = x.testBit t := by
  rw [wrap_pow ht, bits_and_u64_nat _ _ hx (pow_lt64 ht)]
  cases h : x.testBit t
  · have e : x &&& 2 ^ t = 0 := and_zero.2 fun b h1 h2 => by
      rw [Nat.testBit_two_pow] at h2
      have := of_decide_eq_true h2
      subst this
      rw [h1] at h
      cases h
    simp [e]
  · have e : ¬ x &&& 2 ^ t = 0 := fun e => and_zero.1 e t h (by rw [Nat.testBit_two_pow]; simp)
    have e2 : ¬ ((x &&& 2 ^ t : Nat) : Int) = 0 := by omega
    generalize x &&& 2 ^ t = z at e e2
    simpa using e
set_option maxRecDepth 100000 in
theorem ihas (x t : Nat) (hx : x < 2 ^ 64) (ht : t < 64) (w : World) : Calls Try.prog 87 #[.int .u64 (x : Int), .int .i64 (t : Int)] w fun e w' => e = .returned (.bool (x.testBit t)) ∧ w = w' := by
  have HB := Lib.hid (and_bit x t hx ht)
  go_enter Try.func87, Try.ntmps87
  go_wp2_with fail
  go_ret
  exact ⟨Ba.ret_bool HB.out, rfl⟩
theorem imeets (x y : Nat) (hx : x < 2 ^ 64) (hy : y < 2 ^ 64) (w : World) : Calls Try.prog 102 #[.int .u64 (x : Int), .int .u64 (y : Int)] w fun e w' => e = .returned (.bool (decide (¬ x &&& y = 0))) ∧ w = w' := by
  have HB : Hid ((bits BinOp.and IntKind.u64 (x : Int) (y : Int) != 0) = decide (¬ x &&& y = 0)) := Lib.hid (by
    rw [bits_and_u64_nat _ _ hx hy]
    by_cases h : x &&& y = 0
    · simp [h]
    · simp [h])
  go_enter Try.func102, Try.ntmps102
  go_wp2_with fail
  go_ret
  exact ⟨Ba.ret_bool HB.out, rfl⟩
theorem ipart (x y : Nat) (hx : x < 2 ^ 64) (hy : y < 2 ^ 64) (w : World) : Calls Try.prog 115 #[.int .u64 (x : Int), .int .u64 (y : Int)] w fun e w' => e = .returned (.bool (decide (x &&& (18446744073709551615 - y) = 0))) ∧ w = w' := by
  have HB : Hid ((bits BinOp.andNot IntKind.u64 (x : Int) (y : Int) == 0) = decide (x &&& (18446744073709551615 - y) = 0)) := Lib.hid (by
    rw [u64_andNot_nat _ _ hx hy]
    by_cases h : x &&& (18446744073709551615 - y) = 0
    · simp [h]
    · simp [h])
  go_enter Try.func115, Try.ntmps115
  go_wp2_with fail
  go_ret
  exact ⟨Ba.ret_bool HB.out, rfl⟩
theorem isize (n C : Int) (s : ByteArray) (a b c d : Nat) (w : World) : Calls Try.prog 95 #[hdV n C s a b c d] w fun e w' => e = .returned (.int .i64 (s.size : Int)) ∧ Below w.heap.size w w' := by
  have HB := Lib.hid (below_box w (hdC n C s a b c d))
  go_enter Try.func95, Try.ntmps95
  go_wp2_with fail
  go_ret
  exact ⟨rfl, HB.out⟩
theorem iarea (a b : Nat) (c d : Int) (ha : a ≤ 6) (hb : b ≤ 6) (w : World) : Calls Try.prog 72 #[cuV a b c d] w fun e w' => e = .returned (.int .i64 ((a * b : Nat) : Int)) ∧ Below w.heap.size w w' := by
  have h36 : a * b ≤ 36 := Nat.mul_le_mul ha hb
  have HB := Lib.hid (below_box w (.cells #[.int .i64 a, .int .i64 b, .int .i64 c, .int .i64 d] 42))
  have HW : IntKind.i64.wrap ((a : Int) * (b : Int)) = ((a * b : Nat) : Int) := by
    rw [Int.natCast_mul]
    have e : ((a : Int) * (b : Int)) = ((a * b : Nat) : Int) := (Int.natCast_mul a b).symm
    rw [e]
    exact IntWalk.i64_in _ (by omega)
  go_enter Try.func72, Try.ntmps72
  go_wp2_with fail
  go_ret
  exact ⟨by first | rfl | (rw [HW]), HB.out⟩
theorem iqual (q : Int) (w : World) : Calls Try.prog 71 #[.int .i64 q] w fun e w' => e = .returned (.bool (Ba.inB q 1 3)) ∧ w = w' := by
  have C := Lib.hid (Ba.within_any q 1 3 w)
  generalize Ba.inB q 1 3 = r at C ⊢
  go_enter Try.func71, Try.ntmps71
  go_wp2_with fail
  refine C.out.mono ?_
  rintro e w' ⟨rfl, rfl⟩
  go_wp2_with fail
  go_ret
  exact ⟨rfl, rfl⟩
theorem icut (a b c d : Int) (w : World) : Calls Try.prog 60 #[cuV a b c d] w fun e w' => e = .returned (.bool (cuB a b c d)) ∧ Below w.heap.size w w' := by
  have C0 := Lib.hid (fun w => Ba.within_any a 1 6 w)
  have C1 := Lib.hid (fun w => Ba.within_any b 1 6 w)
  have C2 := Lib.hid (fun w => iqual c w)
  have C3 := Lib.hid (fun w => Ba.within_any d 0 1000 w)
  have HB := Lib.hid (below_box w (.cells #[.int .i64 a, .int .i64 b, .int .i64 c, .int .i64 d] 42))
  unfold cuB
  generalize Ba.inB a 1 6 = r0 at C0 ⊢
  generalize Ba.inB b 1 6 = r1 at C1 ⊢
  generalize Ba.inB c 1 3 = r2 at C2 ⊢
  generalize Ba.inB d 0 1000 = r3 at C3 ⊢
  go_enter Try.func60, Try.ntmps60
  go_wp2_with fail
  refine (C0.out _).mono ?_
  rintro e w' ⟨rfl, rfl⟩
  cases r0
  · go_wp2_with fail
    go_ret
    exact ⟨rfl, HB.out⟩
  go_wp2_with fail
  refine (C1.out _).mono ?_
  rintro e w' ⟨rfl, rfl⟩
  cases r1
  · go_wp2_with fail
    go_ret
    exact ⟨rfl, HB.out⟩
  go_wp2_with fail
  refine (C2.out _).mono ?_
  rintro e w' ⟨rfl, rfl⟩
  cases r2
  · go_wp2_with fail
    go_ret
    exact ⟨rfl, HB.out⟩
  go_wp2_with fail
  refine (C3.out _).mono ?_
  rintro e w' ⟨rfl, rfl⟩
  go_wp2_with fail
  go_ret
  exact ⟨rfl, HB.out⟩
set_option maxRecDepth 100000 in
theorem impl_vc (A : Option Addr) (n c : Nat) (f : Nat → Int) (hn : n ≤ 1048576) (w : World) (hA : Nums w w.heap.size A (n * 4) f) :
    Calls Try.prog 23 #[.slice A n c] w fun e w' => e = .returned (.bool (tv (CutsP n f))) ∧ Below w.heap.size w w' := by
  have HA := Lib.hid hA
  have HN : Hid (∀ k, k < n → cuB (f (k * 4)) (f (k * 4 + 1)) (f (k * 4 + 2)) (f (k * 4 + 3)) = false → tv (CutsP n f) = false) := Lib.hid fun k hk h => tv_no fun e => by rw [e.1 k hk] at h; cases h
  have HL : Hid ((4 : Int) < (n : Int) → tv (CutsP n f) = false) := Lib.hid fun h => tv_no fun e => by have := e.2; omega
  have HY : Hid (¬ (4 : Int) < (n : Int) → (∀ k, k < n → cuB (f (k * 4)) (f (k * 4 + 1)) (f (k * 4 + 2)) (f (k * 4 + 3)) = true) → tv (CutsP n f) = true) := Lib.hid fun q h => tv_yes ⟨h, by omega⟩
  generalize tv (CutsP n f) = r at HN HY HL ⊢
  clear hA
  go_enter Try.func23, Try.ntmps23
  by_cases h4 : (4 : Int) < (n : Int)
  · have HF := Lib.hid (HL.out h4)
    go_wp2_with fail
    go_ret
    exact ⟨Ba.ret_bool HF.out.symm, Below.refl _ _⟩
  have HY2 := Lib.hid (HY.out h4)
  have h4b : (n : Int) ≤ 4 := by omega
  clear HY HL h4
  go_wp2_with fail
  clear h4b
  go_loopw [10] (fun i wr => ∃ k : Nat, k ≤ n ∧ i = .int .i64 (k : Int) ∧ Hid (Below w.heap.size w wr) ∧ Hid (∀ j, j < k → cuB (f (j * 4)) (f (j * 4 + 1)) (f (j * 4 + 2)) (f (j * 4 + 3)) = true)) (fun i _ => n - (intOf i).toNat)
  case atStart => exact ⟨0, Nat.zero_le _, rfl, Lib.hid (Below.refl _ _), Lib.hid fun j hj => by omega⟩
  case round =>
    obtain ⟨k, hk, rfl, HB, hall⟩ := hrel
    have e0 : (0 : Int) ≤ (k : Int) := Int.natCast_nonneg _
    by_cases hlt : k < n
    · obtain ⟨b, off, rfl, hb, hc⟩ := (HA.out.below HB.out (Nat.le_refl _)) (by omega)
      obtain ⟨x0, x1, x2, x3⟩ := Cut.cells_at hc hlt
      have HNk := Lib.hid (HN.out k hlt)
      have HS := Lib.hid (fun h => step_all (p := fun j => cuB (f (j * 4)) (f (j * 4 + 1)) (f (j * 4 + 2)) (f (j * 4 + 3))) hall.out (k := k) h)
      have C := Lib.hid (fun w => icut (f (k * 4)) (f (k * 4 + 1)) (f (k * 4 + 2)) (f (k * 4 + 3)) w)
      have e1 : (k : Int) < (n : Int) := by omega
      have hk1 : k + 1 ≤ n := by omega
      generalize cuB (f (k * 4)) (f (k * 4 + 1)) (f (k * 4 + 2)) (f (k * 4 + 3)) = q at HNk HS C
      generalize f (k * 4) = u0 at x0 C
      generalize f (k * 4 + 1) = u1 at x1 C
      generalize f (k * 4 + 2) = u2 at x2 C
      generalize f (k * 4 + 3) = u3 at x3 C
      have HX := Lib.hid (below_then HB.out (below_box wr (.cells #[.int .i64 u0, .int .i64 u1, .int .i64 u2, .int .i64 u3] 42)))
      clear hc hk
      go_wp2_with fail
      refine (C.out _).mono ?_
      rintro e w1 ⟨rfl, b1⟩
      have HQ := Lib.hid (below_then HX.out b1)
      clear b1 x0 x1 x2 x3 C HX
      cases q
      · have HF := Lib.hid (HNk.out rfl)
        go_wp2_with fail
        go_ret
        exact ⟨Ba.ret_bool HF.out.symm, HQ.out⟩
      · have HD := Lib.hid (HS.out rfl)
        go_wp2_with fail
        go_roundw
        case rel => exact ⟨k + 1, hk1, by go_num, HQ, HD⟩
        case measure => simp [intOf]; omega
    · obtain rfl : k = n := by omega
      have HF := Lib.hid (HY2.out hall.out)
      go_wp2_with fail
      go_ret
      exact ⟨Ba.ret_bool HF.out.symm, HB.out⟩
end Go.Proofs.Ytongfgikkcieaaa.T2
