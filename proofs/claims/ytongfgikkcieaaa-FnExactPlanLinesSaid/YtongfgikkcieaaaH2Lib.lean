/- Hides: the spec's: which pieces are valid, ValidHide, ValidCuts, QualityAt. -/
import Derived.Test.YtongfgikkcieaaaHeLib
import Derived.Test.YtongfgikkcieaaaCutLib
namespace Go.Proofs.Ytongfgikkcieaaa.H2
set_option linter.unusedVariables false
open Go.RowKit Ft Is Ge Qb Hd Ts
open Go.Proofs.Ytongfgikkcieaaa.Nm (byt byt_of)

abbrev cuV (a b c d : Int) : Value := .agg #[.int .i64 a, .int .i64 b, .int .i64 c, .int .i64 d]
theorem one (a b c d : Int) (w : World) : Calls Try.prog 67 #[cuV a b c d] w fun e w' => e = .returned (.bool (cuB a b c d)) ∧ Below w.heap.size w w' := by
  have C0 := Lib.hid (fun w => Ba.in_any a 1 6 w)
  have C1 := Lib.hid (fun w => Ba.in_any b 1 6 w)
  have C2 := Lib.hid (fun w => Ba.in_any c 1 3 w)
  have C3 := Lib.hid (fun w => Ba.in_any d 0 1000 w)
  have HB := Lib.hid (below_box w (.cells #[.int .i64 a, .int .i64 b, .int .i64 c, .int .i64 d] 42))
  unfold cuB
  generalize Ba.inB a 1 6 = r0 at C0 ⊢
  generalize Ba.inB b 1 6 = r1 at C1 ⊢
  generalize Ba.inB c 1 3 = r2 at C2 ⊢
  generalize Ba.inB d 0 1000 = r3 at C3 ⊢
  go_enter Try.func67, Try.ntmps67
  go_wp2_with fail
  refine (C0.out _).mono ?_
  rintro e w' ⟨rfl, rfl⟩
  cases r0
  · go_wp2_with fail
    go_ret
    exact ⟨rfl, HB.out⟩
  go_wp2_with fail
  refine (C1.out _).mono ?_
  rintro e w' ⟨rfl, rfl⟩
  cases r1
  · go_wp2_with fail
    go_ret
    exact ⟨rfl, HB.out⟩
  go_wp2_with fail
  refine (C2.out _).mono ?_
  rintro e w' ⟨rfl, rfl⟩
  cases r2
  · go_wp2_with fail
    go_ret
    exact ⟨rfl, HB.out⟩
  go_wp2_with fail
  refine (C3.out _).mono ?_
  rintro e w' ⟨rfl, rfl⟩
  go_wp2_with fail
  go_ret
  exact ⟨rfl, HB.out⟩
set_option maxRecDepth 100000 in
theorem cuts (A : Option Addr) (n c : Nat) (f : Nat → Int) (hn : n ≤ 1048576) (w : World) (hA : Nums w w.heap.size A (n * 4) f) :
    Calls Try.prog 59 #[.slice A n c] w fun e w' => e = .returned (.bool (tv (CutsP n f))) ∧ Below w.heap.size w w' := by
  have HA := Lib.hid hA
  have HN : Hid (∀ k, k < n → cuB (f (k * 4)) (f (k * 4 + 1)) (f (k * 4 + 2)) (f (k * 4 + 3)) = false → tv (CutsP n f) = false) := Lib.hid fun k hk h => tv_no fun e => by rw [e.1 k hk] at h; cases h
  have HY : Hid ((∀ k, k < n → cuB (f (k * 4)) (f (k * 4 + 1)) (f (k * 4 + 2)) (f (k * 4 + 3)) = true) → tv (CutsP n f) = decide ((n : Int) ≤ 4)) := Lib.hid fun h => by
    by_cases q : n ≤ 4
    · rw [tv_yes ⟨h, q⟩, decide_eq_true (by omega)]
    · rw [tv_no fun e => q e.2, decide_eq_false (by omega)]
  generalize tv (CutsP n f) = r at HN HY ⊢
  clear hA
  go_enter Try.func59, Try.ntmps59
  go_wp2_with fail
  go_loopw [3] (fun i wr => ∃ k : Nat, k ≤ n ∧ i = .int .i64 (k : Int) ∧ Hid (Below w.heap.size w wr) ∧ Hid (∀ j, j < k → cuB (f (j * 4)) (f (j * 4 + 1)) (f (j * 4 + 2)) (f (j * 4 + 3)) = true)) (fun i _ => n - (intOf i).toNat)
  case atStart => exact ⟨0, Nat.zero_le _, rfl, Lib.hid (Below.refl _ _), Lib.hid fun j hj => by omega⟩
  case round =>
    obtain ⟨k, hk, rfl, HB, hall⟩ := hrel
    have e0 : (0 : Int) ≤ (k : Int) := Int.natCast_nonneg _
    by_cases hlt : k < n
    · obtain ⟨b, off, rfl, hb, hc⟩ := (HA.out.below HB.out (Nat.le_refl _)) (by omega)
      obtain ⟨x0, x1, x2, x3⟩ := Cut.cells_at hc hlt
      have HNk := Lib.hid (HN.out k hlt)
      have HS := Lib.hid (fun h => step_all (p := fun j => cuB (f (j * 4)) (f (j * 4 + 1)) (f (j * 4 + 2)) (f (j * 4 + 3))) hall.out (k := k) h)
      have C := Lib.hid (fun w => one (f (k * 4)) (f (k * 4 + 1)) (f (k * 4 + 2)) (f (k * 4 + 3)) w)
      have e1 : (k : Int) < (n : Int) := by omega
      have hk1 : k + 1 ≤ n := by omega
      generalize cuB (f (k * 4)) (f (k * 4 + 1)) (f (k * 4 + 2)) (f (k * 4 + 3)) = q at HNk HS C
      generalize f (k * 4) = u0 at x0 C
      generalize f (k * 4 + 1) = u1 at x1 C
      generalize f (k * 4 + 2) = u2 at x2 C
      generalize f (k * 4 + 3) = u3 at x3 C
      clear hc hk
      go_wp2_with fail
      refine (C.out _).mono ?_
      rintro e w1 ⟨rfl, b1⟩
      have HQ := Lib.hid (below_then HB.out b1)
      clear b1 x0 x1 x2 x3 C
      cases q
      · have HF := Lib.hid (HNk.out rfl)
        go_wp2_with fail
        go_ret
        exact ⟨Ba.ret_bool HF.out.symm, HQ.out⟩
      · have HD := Lib.hid (HS.out rfl)
        go_wp2_with fail
        go_roundw
        case rel => exact ⟨k + 1, hk1, by go_num, HQ, HD⟩
        case measure => simp [intOf]; omega
    · obtain rfl : k = n := by omega
      have HF := Lib.hid (HY.out hall.out)
      go_wp2_with fail
      go_ret
      exact ⟨Ba.ret_bool HF.out.symm, HB.out⟩
theorem spec_vh (A : Option Addr) (n c : Nat) (f : Nat → ByteArray) (hn : n ≤ 1048576) (hs : ∀ i, i < n → (f i).size ≤ 1048576) (w : World) (hA : Txts w w.heap.size A n f) :
    Calls Try.prog 16 #[.slice A n c] w fun e w' => e = .returned (.bool (tv (HideP n f))) ∧ Below w.heap.size w w' := by
  have C := Lib.hid (He.spec_ok A n c f hn hs w hA)
  generalize tv (HideP n f) = r at C ⊢
  clear hA
  go_enter Try.func16, Try.ntmps16
  go_wp2_with fail
  refine C.out.mono ?_
  rintro e w1 ⟨rfl, b1⟩
  go_wp2_with fail
  go_ret
  exact ⟨rfl, b1⟩
theorem spec_vc (A : Option Addr) (n c : Nat) (f : Nat → Int) (hn : n ≤ 1048576) (w : World) (hA : Nums w w.heap.size A (n * 4) f) :
    Calls Try.prog 21 #[.slice A n c] w fun e w' => e = .returned (.bool (tv (CutsP n f))) ∧ Below w.heap.size w w' := by
  have C := Lib.hid (cuts A n c f hn w hA)
  generalize tv (CutsP n f) = r at C ⊢
  clear hA
  go_enter Try.func21, Try.ntmps21
  go_wp2_with fail
  refine C.out.mono ?_
  rintro e w1 ⟨rfl, b1⟩
  go_wp2_with fail
  go_ret
  exact ⟨rfl, b1⟩
/-- What QualityAt tells. -/
noncomputable def qaC (n : Nat) (f : Nat → ByteArray) (r c : Int) : Int := if tv (HideP n f) = true then (if Ba.inB r 0 ((n : Int) - 1) = true then (if Ba.inB c 0 (((f 0).size : Int) - 1) = true then 0 else 2) else 2) else 1
noncomputable def qaV (n : Nat) (f : Nat → ByteArray) (r c : Int) : Int := if qaC n f r c = 0 then qf f r.toNat c.toNat else 0
def QaAt (n : Nat) (f : Nat → ByteArray) (r q : Int) (w : World) (e : Ending) (w' : World) : Prop := e = .returned (.tuple #[.int .i64 (qaV n f r q), .int .i64 (qaC n f r q)]) ∧ Below w.heap.size w w'
set_option maxRecDepth 100000 in
set_option maxHeartbeats 1000000 in
theorem spec_qa (A : Option Addr) (n c : Nat) (f : Nat → ByteArray) (r q : Int) (hn : n ≤ 1048576) (hs : ∀ i, i < n → (f i).size ≤ 1048576) (w : World) (hA : Txts w w.heap.size A n f) :
    Calls Try.prog 25 #[.slice A n c, .int .i64 r, .int .i64 q] w (QaAt n f r q w) := by
  have HA := Lib.hid hA
  have C := Lib.hid (He.spec_ok A n c f hn hs w hA)
  have V0 : Hid (tv (HideP n f) = false → ∀ W, Below w.heap.size w W → QaAt n f r q w (.returned (.tuple #[.int .i64 0, .int .i64 1])) W) := Lib.hid fun h W hb => ⟨by unfold qaV qaC; rw [h]; simp, hb⟩
  have V1 : Hid (tv (HideP n f) = true → Ba.inB r 0 ((n : Int) - 1) = false → ∀ W, Below w.heap.size w W → QaAt n f r q w (.returned (.tuple #[.int .i64 0, .int .i64 2])) W) := Lib.hid fun h h1 W hb => ⟨by unfold qaV qaC; rw [h, h1]; simp, hb⟩
  have V2 : Hid (tv (HideP n f) = true → Ba.inB r 0 ((n : Int) - 1) = true → Ba.inB q 0 (((f 0).size : Int) - 1) = false → ∀ W, Below w.heap.size w W → QaAt n f r q w (.returned (.tuple #[.int .i64 0, .int .i64 2])) W) := Lib.hid fun h h1 h2 W hb => ⟨by unfold qaV qaC; rw [h, h1, h2]; simp, hb⟩
  have V3 : Hid (tv (HideP n f) = true → Ba.inB r 0 ((n : Int) - 1) = true → Ba.inB q 0 (((f 0).size : Int) - 1) = true → ∀ W, Below w.heap.size w W → QaAt n f r q w (.returned (.tuple #[.int .i64 (qf f r.toNat q.toNat), .int .i64 0])) W) := Lib.hid fun h h1 h2 W hb => ⟨by unfold qaV qaC; rw [h, h1, h2]; simp, hb⟩
  have HP : Hid (tv (HideP n f) = true → HideP n f) := Lib.hid fun h => tv_iff.1 h
  generalize QaAt n f r q w = Q at V0 V1 V2 V3 ⊢
  generalize tv (HideP n f) = ok at C V0 V1 V2 V3 HP
  clear hA
  go_enter Try.func25, Try.ntmps25
  go_wp2_with fail
  refine C.out.mono ?_
  rintro e w1 ⟨rfl, b1⟩
  have HB := Lib.hid b1
  clear b1 C
  cases ok
  · have HF := Lib.hid (V0.out rfl _ HB.out)
    clear V0 V1 V2 V3
    go_wp2_with fail
    exact HF.out
  have hh := HP.out rfl
  have hh1 := hh.cols
  have hh2 := hh.2
  have W1 := Lib.hid (fun h => V1.out (by first | rfl | trivial) h _ HB.out)
  have W2 := Lib.hid (fun h h2 => V2.out (by first | rfl | trivial) h h2 _ HB.out)
  have W3 := Lib.hid (fun h h2 => V3.out (by first | rfl | trivial) h h2 _ HB.out)
  have C1 := Lib.hid (fun w => Ba.in_any r 0 ((n : Int) - 1) w)
  have C2 := Lib.hid (fun w => Ba.in_any q 0 (((f 0).size : Int) - 1) w)
  obtain ⟨b, off, rfl, hb, hc⟩ := (HA.out.below HB.out (Nat.le_refl _)) (by omega)
  have y0 := hc 0 (by omega)
  rw [Nat.add_zero] at y0
  have e2 : (0 : Int) < (n : Int) := by omega
  have e3 : 0 < n := by omega
  have HC := Lib.hid hc
  have HS := Lib.hid (fun k (hk : k < n) => (hh.1 k hk).1)
  clear hc hh V0 HP V1 V2 V3
  have I1 := Lib.hid (@Ba.in_of r 0 ((n : Int) - 1))
  have I2 := Lib.hid (@Ba.in_of q 0 (((f 0).size : Int) - 1))
  generalize Ba.inB r 0 ((n : Int) - 1) = r1 at C1 W1 W2 W3 I1
  generalize Ba.inB q 0 (((f 0).size : Int) - 1) = r2 at C2 W2 W3 I2
  generalize f 0 = z at hh1 C2 I2 HS y0
  go_wp2_with fail
  refine (C1.out _).mono ?_
  rintro e w' ⟨rfl, rfl⟩
  cases r1
  · have HF := Lib.hid (W1.out (by first | rfl | trivial))
    clear W1 W2 W3
    go_wp2_with fail
    exact HF.out
  go_wp2_with fail
  refine (C2.out _).mono ?_
  rintro e w' ⟨rfl, rfl⟩
  cases r2
  · have HF := Lib.hid (W2.out (by first | rfl | trivial) (by first | rfl | trivial))
    clear W1 W2 W3
    go_wp2_with fail
    exact HF.out
  have X3 := Lib.hid (W3.out (by first | rfl | trivial) (by first | rfl | trivial))
  clear W1 W2 W3
  have i1 := I1.out (by first | rfl | trivial)
  have i2 := I2.out (by first | rfl | trivial)
  obtain ⟨k, rfl⟩ : ∃ k : Nat, r = (k : Int) := ⟨r.toNat, by omega⟩
  obtain ⟨m, rfl⟩ : ∃ m : Nat, q = (m : Int) := ⟨q.toNat, by omega⟩
  have hk : k < n := by omega
  have x0 := HC.out k hk
  have hm : m < (f k).size := by rw [HS.out k hk]; omega
  have E : Hid (qf f ((k : Int)).toNat ((m : Int)).toNat = qI (((f k)[m]'hm).toNat : Int)) := Lib.hid (by
    rw [Int.toNat_natCast, Int.toNat_natCast]
    unfold qf
    rw [byt_of _ _ hm])
  rw [E.out] at X3
  have g1 : (k : Int) < (n : Int) := by omega
  clear E C1 C2 y0 i1 i2 HS I1 I2
  generalize f k = s at x0 hm X3
  have g2 : (m : Int) < (s.size : Int) := by omega
  have CQ := Lib.hid (fun w => He.spec_q ((s[m]'hm).toNat : Int) w)
  generalize qI ((s[m]'hm).toNat : Int) = qq at CQ X3
  go_wp2_with fail
  refine (CQ.out _).mono ?_
  rintro e w' ⟨rfl, rfl⟩
  go_wp2_with fail
  exact X3.out
end Go.Proofs.Ytongfgikkcieaaa.H2
