/- Hides: the program's QualityAt. -/
import Derived.Test.YtongfgikkcieaaaT5Lib
namespace Go.Proofs.Ytongfgikkcieaaa.T6
set_option linter.unusedVariables false
open Go.RowKit Ft Is Ge Qb Hd Ts H2 T1 T2 T3 T4 T5
open Go.Proofs.Ytongfgikkcieaaa.Nm (byt byt_of)

theorem hv_yes {n : Nat} {f : Nat → ByteArray} (h : HideP n f) : hvV n f = hdV n (f 0).size (jnS f n) (gdN n (f 0).size (qf f) 0) (gdN n (f 0).size (qf f) 1) (gdN n (f 0).size (qf f) 2) (gdN n (f 0).size (qf f) 3) := by
  unfold hvV
  rw [tv_yes h]
  rfl
theorem hv_no {n : Nat} {f : Nat → ByteArray} (h : tv (HideP n f) = false) : hvV n f = hdV 0 0 ⟨#[]⟩ 0 0 0 0 := by
  unfold hvV
  rw [h]
  rfl
theorem in_none (r : Int) : Ba.inB r 0 (-1) = false := by
  cases h : Ba.inB r 0 (-1)
  · rfl
  · have := Ba.in_of h; omega
set_option maxRecDepth 100000 in
set_option maxHeartbeats 1000000 in
theorem impl_qa (A : Option Addr) (n c : Nat) (f : Nat → ByteArray) (r q : Int) (hn : n ≤ 1048576) (hs : ∀ i, i < n → (f i).size ≤ 1048576) (hcap : n ≤ c) (w : World) (hA : Txts w w.heap.size A n f) :
    Calls Try.prog 26 #[.slice A n c, .int .i64 r, .int .i64 q] w (QaAt n f r q w) := by
  have C := Lib.hid (ihide A n c f hn hs hcap w hA)
  unfold HoAt at C
  have V0 : Hid (tv (HideP n f) = false → ∀ W, Below w.heap.size w W → QaAt n f r q w (.returned (.tuple #[.int .i64 0, .int .i64 1])) W) := Lib.hid fun h W hb => ⟨by unfold qaV qaC; rw [h]; simp, hb⟩
  have V1 : Hid (tv (HideP n f) = true → Ba.inB r 0 ((n : Int) - 1) = false → ∀ W, Below w.heap.size w W → QaAt n f r q w (.returned (.tuple #[.int .i64 0, .int .i64 2])) W) := Lib.hid fun h h1 W hb => ⟨by unfold qaV qaC; rw [h, h1]; simp, hb⟩
  have V2 : Hid (tv (HideP n f) = true → Ba.inB r 0 ((n : Int) - 1) = true → Ba.inB q 0 (((f 0).size : Int) - 1) = false → ∀ W, Below w.heap.size w W → QaAt n f r q w (.returned (.tuple #[.int .i64 0, .int .i64 2])) W) := Lib.hid fun h h1 h2 W hb => ⟨by unfold qaV qaC; rw [h, h1, h2]; simp, hb⟩
  have V3 : Hid (tv (HideP n f) = true → Ba.inB r 0 ((n : Int) - 1) = true → Ba.inB q 0 (((f 0).size : Int) - 1) = true → ∀ W, Below w.heap.size w W → QaAt n f r q w (.returned (.tuple #[.int .i64 (qf f r.toNat q.toNat), .int .i64 0])) W) := Lib.hid fun h h1 h2 W hb => ⟨by unfold qaV qaC; rw [h, h1, h2]; simp, hb⟩
  generalize QaAt n f r q w = Q at V0 V1 V2 V3 ⊢
  clear hA hs
  by_cases hok : tv (HideP n f) = false
  · have HF := Lib.hid (V0.out hok)
    rw [hv_no hok, hok] at C
    have CN := Lib.hid (fun w => in_none r ▸ Ba.within_any r 0 (-1) w)
    have CA := Lib.hid (fun w => Ba.arg_inv false w)
    have HBX := Lib.hid (fun w => below_box w (bx0 0 0 ⟨#[]⟩ 0 0 0 0))
    clear V0 V1 V2 V3 hok
    go_enter Try.func26, Try.ntmps26
    go_wp2_with fail
    refine C.out.mono ?_
    rintro e w1 ⟨rfl, b1⟩
    have HB := Lib.hid (below_then b1 (HBX.out w1))
    clear b1 C HBX
    go_wp2_with fail
    refine (CN.out _).mono ?_
    rintro e w' ⟨rfl, rfl⟩
    go_wp2_with fail
    refine (CA.out _).mono ?_
    rintro e w' ⟨rfl, rfl⟩
    go_wp2_with fail
    exact HF.out _ HB.out
  have hok : tv (HideP n f) = true := by simpa using hok
  have hh : HideP n f := tv_iff.1 hok
  have hal := hide_al hh
  have hC := hal.2.2
  have hn6 := hal.2.1
  have hjs := jn_size hal.1
  rw [hv_yes hh, hok] at C
  have HQF : Hid (∀ k m : Nat, k < n → m < (f 0).size → k * (f 0).size + m < (jnS f n).size ∧ qI (byt (jnS f n) (k * (f 0).size + m)) = qf f k m) := Lib.hid fun k m hk hm => by
    have hl := row_lt (n := n) (C := (f 0).size) hk hm
    refine ⟨by rw [hjs]; exact hl, ?_⟩
    obtain ⟨d1, d2⟩ := dm (r := k) (c := m) (C := (f 0).size) hm
    rw [← qf_jn hal hl, d1, d2]
  have W1 := Lib.hid (V1.out hok)
  have W2 := Lib.hid (V2.out hok)
  have W3 := Lib.hid (V3.out hok)
  have C1 := Lib.hid (fun w => Ba.within_any r 0 ((n : Int) - 1) w)
  have C2 := Lib.hid (fun w => Ba.within_any q 0 (((f 0).size : Int) - 1) w)
  have CE := Lib.hid (fun w => Ba.arg_rng w)
  have CO := Lib.hid (fun w => Ba.arg_ok w)
  have I1 := Lib.hid (@Ba.in_of r 0 ((n : Int) - 1))
  have I2 := Lib.hid (@Ba.in_of q 0 (((f 0).size : Int) - 1))
  clear V0 V1 V2 V3 hok hh hal hjs
  generalize Ba.inB r 0 ((n : Int) - 1) = r1 at C1 W1 W2 W3 I1
  generalize Ba.inB q 0 (((f 0).size : Int) - 1) = r2 at C2 W2 W3 I2
  generalize gdN n (f 0).size (qf f) 0 = g0 at C
  generalize gdN n (f 0).size (qf f) 1 = g1 at C
  generalize gdN n (f 0).size (qf f) 2 = g2 at C
  generalize gdN n (f 0).size (qf f) 3 = g3 at C
  generalize jnS f n = S at C HQF
  generalize (f 0).size = D at C HQF C2 hC I2
  have HBX := Lib.hid (fun w => below_box w (bx0 n D S g0 g1 g2 g3))
  have KBX := Lib.hid (fun w => heap_alloc_new w (bx0 n D S g0 g1 g2 g3))
  go_enter Try.func26, Try.ntmps26
  go_wp2_with fail
  refine C.out.mono ?_
  rintro e w1 ⟨rfl, b1⟩
  have HB := Lib.hid (below_then b1 (HBX.out w1))
  clear b1 C HBX KBX
  go_wp2_with fail
  refine (C1.out _).mono ?_
  rintro e w' ⟨rfl, rfl⟩
  cases r1
  · have HF := Lib.hid (W1.out (by first | rfl | trivial))
    clear W1 W2 W3
    go_wp2_with fail
    refine (CE.out _).mono ?_
    rintro e w' ⟨rfl, rfl⟩
    go_wp2_with fail
    exact HF.out _ HB.out
  go_wp2_with fail
  refine (C2.out _).mono ?_
  rintro e w' ⟨rfl, rfl⟩
  cases r2
  · have HF := Lib.hid (W2.out (by first | rfl | trivial) (by first | rfl | trivial))
    clear W1 W2 W3
    go_wp2_with fail
    refine (CE.out _).mono ?_
    rintro e w' ⟨rfl, rfl⟩
    go_wp2_with fail
    exact HF.out _ HB.out
  have X3 := Lib.hid (W3.out (by first | rfl | trivial) (by first | rfl | trivial))
  clear W1 W2 W3 CE C1 C2
  have i1 := I1.out (by first | rfl | trivial)
  have i2 := I2.out (by first | rfl | trivial)
  obtain ⟨k, rfl⟩ : ∃ k : Nat, r = (k : Int) := ⟨r.toNat, by omega⟩
  obtain ⟨m, rfl⟩ : ∃ m : Nat, q = (m : Int) := ⟨q.toNat, by omega⟩
  obtain ⟨hlt, hq⟩ := HQF.out k m (by omega) (by omega)
  rw [Int.toNat_natCast, Int.toNat_natCast, ← hq] at X3
  have h36 : k * D ≤ 6 * 6 := Nat.mul_le_mul (by omega) (by omega)
  obtain ⟨kd, hkd, hkm⟩ : ∃ kd : Nat, k * D = kd ∧ IntKind.i64.wrap ((k : Int) * (D : Int)) = (kd : Int) := ⟨k * D, rfl, by rw [← Int.natCast_mul]; exact IntWalk.i64_in _ (by omega)⟩
  obtain ⟨t, htt, hta⟩ : ∃ t : Nat, k * D + m = t ∧ IntKind.i64.wrap ((kd : Int) + (m : Int)) = (t : Int) := ⟨k * D + m, rfl, by
    have e : (kd : Int) + (m : Int) = ((k * D + m : Nat) : Int) := by omega
    rw [e]; exact IntWalk.i64_in _ (by omega)⟩
  rw [htt] at hlt X3
  have CQ := Lib.hid (fun w => iq n D S g0 g1 g2 g3 t hlt w)
  generalize qI (byt S t) = qq at CQ X3
  clear HQF I1 I2 hq hkd htt
  go_wp2_with fail
  refine (CO.out _).mono ?_
  rintro e w' ⟨rfl, rfl⟩
  go_wp2_with fail
  refine (CQ.out _).mono ?_
  rintro e w2 ⟨rfl, b2⟩
  have HB2 := Lib.hid (below_then HB.out b2)
  clear b2
  go_wp2_with fail
  exact X3.out _ HB2.out
end Go.Proofs.Ytongfgikkcieaaa.T6
