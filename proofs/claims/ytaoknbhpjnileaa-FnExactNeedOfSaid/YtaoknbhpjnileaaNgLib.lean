/- Both functions NeedOf. -/
import Derived.Test.YtaoknbhpjnileaaNfLib
import Derived.Test.YtaoknbhpjnileaaUnLib
namespace Go.Proofs.Ytaoknbhpjnileaa.Ne
open Go.RowKit Ft Is Ge Qb La Fa Kf
open Un (PairAt pair_no)

noncomputable def okN (s : ByteArray) (x a : Nat → Int) : Bool := laB s x && ftB (a 0) (a 1) (a 2) (a 3)
noncomputable def ndN (s : ByteArray) (x a : Nat → Int) : Nat := if okN s x a then 3 else 0
noncomputable def ndC (s : ByteArray) (x a : Nat → Int) : Int := if okN s x a then 0 else 1
theorem ndn_le (s : ByteArray) (x a : Nat → Int) : ndN s x a ≤ 1048576 := by unfold ndN; split <;> omega
theorem mild_ft {a : Nat → Int} (h : ftB (a 0) (a 1) (a 2) (a 3) = true) : Mild a := by
  simp [ftB, inB] at h
  intro j hj
  obtain rfl | rfl | rfl | rfl : j = 0 ∨ j = 1 ∨ j = 2 ∨ j = 3 := by omega
  all_goals omega
theorem mild_la {s : ByteArray} {x : Nat → Int} (h : laB s x = true) : Mild x := by
  simp only [laB, Bool.and_eq_true] at h
  exact mild_ft h.2.1
set_option maxRecDepth 100000 in
theorem spec_nd (s : ByteArray) (x a : Nat → Int) (hs : s.size ≤ maxLen) (w : World) : Calls Try.prog 20 #[laV s x, ftV a] w (PairAt (ndN s x a) (nd x a) (ndC s x a) w) := by
  have C1 := Lib.hid (fun w => one_spec s x hs w)
  have C2 := Lib.hid (fun w => foot_any (a 0) (a 1) (a 2) (a 3) w)
  have C3 : Hid (∀ w, laB s x = true → ftB (a 0) (a 1) (a 2) (a 3) = true → Calls Try.prog 58 #[laV s x, ftV a] w (RowAt 3 (nd x a) w)) := Lib.hid fun w h1 h2 => need_spec s x a (mild_la h1) (mild_ft h2) w
  have HN1 : Hid (laB s x = false → ndN s x a = 0 ∧ ndC s x a = 1) := Lib.hid fun h => by unfold ndN ndC okN; rw [h]; exact ⟨rfl, rfl⟩
  have HN2 : Hid (ftB (a 0) (a 1) (a 2) (a 3) = false → ndN s x a = 0 ∧ ndC s x a = 1) := Lib.hid fun h => by unfold ndN ndC okN; rw [h, Bool.and_false]; exact ⟨rfl, rfl⟩
  have HY : Hid (laB s x = true → ftB (a 0) (a 1) (a 2) (a 3) = true → ndN s x a = 3 ∧ ndC s x a = 0) := Lib.hid fun h h' => by unfold ndN ndC okN; rw [h, h']; exact ⟨rfl, rfl⟩
  obtain ⟨kx, ka⟩ := Ge.two w (laC s x 33) (ftC a 35)
  have HW := Lib.hid (Ge.below2 w (laC s x 33) (ftC a 35))
  have KX := Lib.hid kx
  have KA := Lib.hid ka
  clear kx ka
  have HP1 : Hid (∀ w', ndN s x a = 0 ∧ ndC s x a = 1 → Below w.heap.size w w' → PairAt (ndN s x a) (nd x a) (ndC s x a) w (.returned (.tuple #[.slice none 0 0, .int .i64 1])) w') := Lib.hid fun w' h hb => by rw [h.1, h.2]; exact pair_no hb _
  have HP2 : Hid (∀ w0 w' A cap, ndN s x a = 3 ∧ ndC s x a = 0 → Below w.heap.size w w0 → Own w' w0.heap.size A 3 (nd x a) → Below w0.heap.size w0 w' → PairAt (ndN s x a) (nd x a) (ndC s x a) w (.returned (.tuple #[.slice A 3 cap, .int .i64 0])) w') := Lib.hid fun w0 w' A cap h h0 ho hb => by
    rw [h.1, h.2]
    exact ⟨A, cap, rfl, Lib.hid fun hp => by
      obtain ⟨b, off, e, h1, h2, h3, h4⟩ := ho hp
      exact ⟨b, off, e, by have := h0.size; omega, h2, h3, h4⟩, below_then h0 hb⟩
  generalize PairAt _ _ _ w = Q at HP1 HP2 ⊢
  generalize laB s x = r1 at C1 C3 HN1 HY
  generalize ftB (a 0) (a 1) (a 2) (a 3) = r2 at C2 C3 HN2 HY
  unfold laV at C1 C3 ⊢
  unfold laC at KX HW
  go_enter Try.func20, Try.ntmps20
  go_upto_region 1 with fail
  generalize hw2 : (w.alloc _).alloc _ = w2 at HW KX KA ⊢
  clear hw2
  obtain ⟨x0, x1, x2, x3, x4, x5⟩ := blk6 KX.out
  go_wp2_with fail
  refine (C1.out _).mono ?_
  rintro e w3 ⟨rfl, b3⟩
  have HB3 := Lib.hid (below_then HW.out b3)
  have KX3 := Lib.hid (blk_keep b3 KX.out)
  have KA3 := Lib.hid (blk_keep b3 KA.out)
  clear x0 x1 x2 x3 x4 x5 b3 KX KA
  cases r1
  · have HF := Lib.hid (HP1.out _ (HN1.out (by first | rfl | trivial)) HB3.out)
    go_wp2_with fail
    exact HF.out
  · obtain ⟨y0, y1, y2, y3⟩ := blk4 KA3.out
    go_wp2_with fail
    refine (C2.out _).mono ?_
    rintro e w4 ⟨rfl, b4⟩
    have HB4 := Lib.hid (below_then HB3.out b4)
    have KX4 := Lib.hid (blk_keep b4 KX3.out)
    have KA4 := Lib.hid (blk_keep b4 KA3.out)
    clear y0 y1 y2 y3 b4 KX3 KA3
    cases r2
    · have HF := Lib.hid (HP1.out _ (HN2.out (by first | rfl | trivial)) HB4.out)
      go_wp2_with fail
      exact HF.out
    · obtain ⟨x0, x1, x2, x3, x4, x5⟩ := blk6 KX4.out
      obtain ⟨y0, y1, y2, y3⟩ := blk4 KA4.out
      have CN := Lib.hid (fun w => C3.out w (by first | rfl | trivial) (by first | rfl | trivial))
      go_wp2_with fail
      refine (CN.out _).mono ?_
      rintro e w5 ⟨A, cap, rfl, ho, b5⟩
      have HF := Lib.hid (HP2.out _ _ A cap (HY.out (by first | rfl | trivial) (by first | rfl | trivial)) HB4.out ho.out b5)
      clear ho b5
      go_wp2_with fail
      exact HF.out
set_option maxRecDepth 100000 in
theorem impl_nd (s : ByteArray) (x a : Nat → Int) (hs : s.size ≤ maxLen) (w : World) : Calls Try.prog 23 #[laV s x, ftV a] w (PairAt (ndN s x a) (nd x a) (ndC s x a) w) := by
  have C1 := Lib.hid (fun w => one_impl s x hs w)
  have C2 := Lib.hid (fun w => impl_valid (a 0) (a 1) (a 2) (a 3) w)
  have C3 : Hid (∀ w, laB s x = true → ftB (a 0) (a 1) (a 2) (a 3) = true → Calls Try.prog 61 #[laV s x, ftV a] w (RowAt 3 (nd x a) w)) := Lib.hid fun w h1 h2 => need_impl s x a (mild_la h1) (mild_ft h2) w
  have HN1 : Hid (laB s x = false → ndN s x a = 0 ∧ ndC s x a = 1) := Lib.hid fun h => by unfold ndN ndC okN; rw [h]; exact ⟨rfl, rfl⟩
  have HN2 : Hid (ftB (a 0) (a 1) (a 2) (a 3) = false → ndN s x a = 0 ∧ ndC s x a = 1) := Lib.hid fun h => by unfold ndN ndC okN; rw [h, Bool.and_false]; exact ⟨rfl, rfl⟩
  have HY : Hid (laB s x = true → ftB (a 0) (a 1) (a 2) (a 3) = true → ndN s x a = 3 ∧ ndC s x a = 0) := Lib.hid fun h h' => by unfold ndN ndC okN; rw [h, h']; exact ⟨rfl, rfl⟩
  obtain ⟨kx, ka⟩ := Ge.two w (laC s x 33) (ftC a 35)
  have HW := Lib.hid (Ge.below2 w (laC s x 33) (ftC a 35))
  have KX := Lib.hid kx
  have KA := Lib.hid ka
  clear kx ka
  have HP1 : Hid (∀ w', ndN s x a = 0 ∧ ndC s x a = 1 → Below w.heap.size w w' → PairAt (ndN s x a) (nd x a) (ndC s x a) w (.returned (.tuple #[.slice none 0 0, .int .i64 1])) w') := Lib.hid fun w' h hb => by rw [h.1, h.2]; exact pair_no hb _
  have HP2 : Hid (∀ w0 w' A cap, ndN s x a = 3 ∧ ndC s x a = 0 → Below w.heap.size w w0 → Own w' w0.heap.size A 3 (nd x a) → Below w0.heap.size w0 w' → PairAt (ndN s x a) (nd x a) (ndC s x a) w (.returned (.tuple #[.slice A 3 cap, .int .i64 0])) w') := Lib.hid fun w0 w' A cap h h0 ho hb => by
    rw [h.1, h.2]
    exact ⟨A, cap, rfl, Lib.hid fun hp => by
      obtain ⟨b, off, e, h1, h2, h3, h4⟩ := ho hp
      exact ⟨b, off, e, by have := h0.size; omega, h2, h3, h4⟩, below_then h0 hb⟩
  generalize PairAt _ _ _ w = Q at HP1 HP2 ⊢
  generalize laB s x = r1 at C1 C3 HN1 HY
  generalize ftB (a 0) (a 1) (a 2) (a 3) = r2 at C2 C3 HN2 HY
  unfold laV at C1 C3 ⊢
  unfold laC at KX HW
  go_enter Try.func23, Try.ntmps23
  go_upto_region 1 with fail
  generalize hw2 : (w.alloc _).alloc _ = w2 at HW KX KA ⊢
  clear hw2
  obtain ⟨x0, x1, x2, x3, x4, x5⟩ := blk6 KX.out
  go_wp2_with fail
  refine (C1.out _).mono ?_
  rintro e w3 ⟨rfl, b3⟩
  have HB3 := Lib.hid (below_then HW.out b3)
  have KX3 := Lib.hid (blk_keep b3 KX.out)
  have KA3 := Lib.hid (blk_keep b3 KA.out)
  clear x0 x1 x2 x3 x4 x5 b3 KX KA
  cases r1
  · have HF := Lib.hid (HP1.out _ (HN1.out (by first | rfl | trivial)) HB3.out)
    go_wp2_with fail
    exact HF.out
  · obtain ⟨y0, y1, y2, y3⟩ := blk4 KA3.out
    go_wp2_with fail
    refine (C2.out _).mono ?_
    rintro e w4 ⟨rfl, b4⟩
    have HB4 := Lib.hid (below_then HB3.out b4)
    have KX4 := Lib.hid (blk_keep b4 KX3.out)
    have KA4 := Lib.hid (blk_keep b4 KA3.out)
    clear y0 y1 y2 y3 b4 KX3 KA3
    cases r2
    · have HF := Lib.hid (HP1.out _ (HN2.out (by first | rfl | trivial)) HB4.out)
      go_wp2_with fail
      exact HF.out
    · obtain ⟨x0, x1, x2, x3, x4, x5⟩ := blk6 KX4.out
      obtain ⟨y0, y1, y2, y3⟩ := blk4 KA4.out
      have CN := Lib.hid (fun w => C3.out w (by first | rfl | trivial) (by first | rfl | trivial))
      go_wp2_with fail
      refine (CN.out _).mono ?_
      rintro e w5 ⟨A, cap, rfl, ho, b5⟩
      have HF := Lib.hid (HP2.out _ _ A cap (HY.out (by first | rfl | trivial) (by first | rfl | trivial)) HB4.out ho.out b5)
      clear ho b5
      go_wp2_with fail
      exact HF.out
end Go.Proofs.Ytaoknbhpjnileaa.Ne
