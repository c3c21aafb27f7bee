/- NearestHalf: the spec's loop for the nearest half sizes, the program's, and what both answer. -/
import Derived.Test.YtgclhkiiaclkgaaHfLib
namespace Go.Proofs.Ytgclhkiiaclkgaa.Nr
open Go.RowKit Ba Nh Sc Fr Lh Sr Sw Hf

theorem gap_eq (b n d p q t : Int) : ab ((t + b) * n * q - p * d) = gap b n d p q t := rfl
set_option maxHeartbeats 2000000 in
/-- The spec's loop: the nearest half sizes to p / q. -/
theorem spec_near (s : ByteArray) (b n d p q : Int) (v : scB s b n d = true) (hp : 0 ≤ p) (hp' : p ≤ 220000) (hq : 0 < q) (hq' : q ≤ 100) (w : World) :
    Calls Try.prog 78 #[.agg #[.string s, .int .i64 b, .int .i64 n, .int .i64 d], .int .i64 p, .int .i64 q] w fun e w' => e = .returned (.int .i64 (nearest b n d p q : Int)) ∧ Below w.heap.size w w' := by
  have hv := sc_of v
  have PB := Lib.hid fun (k : Nat) (hk : k ≤ 120) => by
    have h1 := num_bd v (half_in (show k < 121 by omega) (Nat.le_refl _))
    have h2 := Int.mul_nonneg h1.1 (Int.le_of_lt hq)
    have h3 := Int.mul_le_mul h1.2.1 hq' (Int.le_of_lt hq) (by omega)
    exact (⟨h1.1, h1.2.1, h2, by omega⟩ : 0 ≤ ((k : Int) + b) * n ∧ ((k : Int) + b) * n ≤ 220000 ∧ 0 ≤ ((k : Int) + b) * n * q ∧ ((k : Int) + b) * n * q ≤ 22000000)
  have BS := Lib.hid fun (k : Nat) (h0 : 0 < k) (hk : k ≤ 120) => best_step (b := b) (d := d) (num := p) (show 0 < n by omega) hq k h0 hk
  have BE := Lib.hid (best_end b n d p q)
  have m1 := Int.mul_nonneg hp (show 0 ≤ d by omega)
  have m2 := Int.mul_le_mul hp' (show d ≤ 100 by omega) (by omega) (by omega)
  have m3 : p * d ≤ 22000000 := by omega
  have e1 : 0 ≤ b := by omega
  have e2 : b ≤ 100 := by omega
  have HG := Lib.hid fun t => gap_eq b n d p q t
  clear hv v m2
  generalize nearest b n d p q = r at BS BE ⊢
  have SZ := Lib.hid fun (t : Nat) (ht : t ≤ 120) w => (by
    have h := PB.out t ht
    have := ssize (((t : Int) + b) * n * q - p * d) (by omega) w
    rw [HG.out] at this
    exact this : Calls Try.prog 72 #[.int .i64 (((t : Int) + b) * n * q - p * d)] w fun e w' => e = .returned (.int .i64 (gap b n d p q t)) ∧ w = w')
  go_enter Try.func78, Try.ntmps78
  go_wp2_with fail
  have K0 := Lib.hid (blk_new w (.cells #[.string s, .int .i64 b, .int .i64 n, .int .i64 d] 54))
  have HB0 := Lib.hid (below_box w (.cells #[.string s, .int .i64 b, .int .i64 n, .int .i64 d] 54))
  generalize w.alloc (.cells #[.string s, .int .i64 b, .int .i64 n, .int .i64 d] 54) = W at K0 HB0 ⊢
  go_loop [7, 8] (fun x y => ∃ k : Nat, 0 < k ∧ k ≤ 121 ∧ y = .int .i64 k ∧ x = .int .i64 ((min r (k - 1) : Nat) : Int)) (fun _ y => 121 - (intOf y).toNat)
  case atStart => exact ⟨1, by omega, by omega, rfl, by simp⟩
  case round =>
    obtain ⟨k, hk0, hk, rfl, rfl⟩ := hrel
    obtain ⟨x0, x1, x2, x3⟩ := blk4 K0.out
    by_cases hlt : k < 121
    · obtain ⟨bs1, bs2⟩ := BS.out k hk0 (by omega)
      have hm : min r (k - 1) ≤ 120 := by omega
      generalize min r (k - 1) = m at bs1 bs2 hm ⊢
      obtain ⟨p1, p2, p3, p4⟩ := PB.out k (by omega)
      obtain ⟨u1, u2, u3, u4⟩ := PB.out m hm
      have S1 := Lib.hid (SZ.out k (by omega) W)
      have S2 := Lib.hid (SZ.out m hm W)
      have B1 := Lib.hid bs1
      have B2 := Lib.hid bs2
      clear bs1 bs2
      generalize gap b n d p q (k : Int) = gk at S1 B1
      generalize gap b n d p q (m : Int) = gm at S2 B1
      by_cases hlr : k ≤ r
      · have hg := B1.out.2 hlr
        have HE : Hid (min r k = k) := Lib.hid (by rw [B2.out, if_pos hlr])
        go_wp2_with fail
        refine S1.out.mono ?_
        rintro e w' ⟨rfl, rfl⟩
        go_wp2_with fail
        refine S2.out.mono ?_
        rintro e w' ⟨rfl, rfl⟩
        go_wp2_with fail
        go_round
        case rel => exact ⟨k + 1, by omega, by omega, by go_num, by rw [show k + 1 - 1 = k by omega, HE.out]⟩
        case measure => simp [intOf]; omega
      · have hg : ¬ gk < gm := fun h => hlr (B1.out.1 h)
        have HE : Hid (min r k = m) := Lib.hid (by rw [B2.out, if_neg hlr])
        go_wp2_with fail
        refine S1.out.mono ?_
        rintro e w' ⟨rfl, rfl⟩
        go_wp2_with fail
        refine S2.out.mono ?_
        rintro e w' ⟨rfl, rfl⟩
        go_wp2_with fail
        go_round
        case rel => exact ⟨k + 1, by omega, by omega, by go_num, by rw [show k + 1 - 1 = k by omega, HE.out]⟩
        case measure => simp [intOf]; omega
    · obtain rfl : k = 121 := by omega
      have HE : Hid (min r (121 - 1) = r) := Lib.hid BE.out
      generalize min r (121 - 1) = m at HE ⊢
      go_wp2_with fail
      go_ret
      exact ⟨ret_int (by rw [HE.out]), HB0.out⟩
theorem spec_no (s : ByteArray) (b n d l : Int) (hs : s.size ≤ maxLen) (ha : (argE (scB s b n d) (inB l 0 5000) != 0) = true) (w : World) :
    Calls Try.prog 45 #[.agg #[.string s, .int .i64 b, .int .i64 n, .int .i64 d], .int .i64 l] w fun e w' =>
      e = .returned (.tuple #[.int .i64 0, .int .i64 (argE (scB s b n d) (inB l 0 5000))]) ∧ Below w.heap.size w w' := by
  have C := Lib.hid fun w => len_code s b n d l hs w
  generalize argE (scB s b n d) (inB l 0 5000) = c at ha C ⊢
  go_enter Try.func45, Try.ntmps45
  go_wp2_with fail
  refine (C.out _).mono ?_
  rintro e w1 ⟨rfl, b1⟩
  have HB1 := Lib.hid (below_then (below_box _ _) b1)
  clear b1
  go_wp2_with fail
  go_ret2
  exact ⟨rfl, HB1.out⟩
theorem impl_no (s : ByteArray) (b n d l : Int) (hs : s.size ≤ maxLen) (ha : (argE (scB s b n d) (inB l 0 5000) != 0) = true) (w : World) :
    Calls Try.prog 46 #[.agg #[.string s, .int .i64 b, .int .i64 n, .int .i64 d], .int .i64 l] w fun e w' =>
      e = .returned (.tuple #[.int .i64 0, .int .i64 (argE (scB s b n d) (inB l 0 5000))]) ∧ Below w.heap.size w w' := by
  have C := Lib.hid fun w => impl_ok s b n d hs w
  have D := Lib.hid fun w => arg_any (scB s b n d) (inB l 0 5000) w
  generalize argE (scB s b n d) (inB l 0 5000) = c at ha D ⊢
  generalize scB s b n d = v at C D
  generalize hh : inB l 0 5000 = hv at D
  go_enter Try.func46, Try.ntmps46
  go_wp2_with fail
  refine (C.out _).mono ?_
  rintro e w1 ⟨rfl, b1⟩
  have HB1 := Lib.hid (below_then (below_box _ _) b1)
  clear b1
  go_wp2_with (first | (go_at_call 68; refine (within_any _ _ _ _).mono ?_; rw [hh]; rintro e w' ⟨rfl, rfl⟩) | (go_at_call 69; refine (D.out _).mono ?_; rintro e w' ⟨rfl, rfl⟩))
  go_ret2
  exact ⟨rfl, HB1.out⟩
set_option maxHeartbeats 1000000 in
theorem spec_yes (s : ByteArray) (b n d l : Int) (hs : s.size ≤ maxLen) (v : scB s b n d = true) (hl : inB l 0 5000 = true) (w : World) :
    Calls Try.prog 45 #[.agg #[.string s, .int .i64 b, .int .i64 n, .int .i64 d], .int .i64 l] w fun e w' => e = .returned (.tuple #[.int .i64 (nearest b n d l 1 : Int), .int .i64 0]) ∧ Below w.heap.size w w' := by
  have C : Hid (∀ w : World, Calls Try.prog 75 #[.agg #[.string s, .int .i64 b, .int .i64 n, .int .i64 d], .int .i64 l] w fun e w' => e = .returned (.int .i64 0) ∧ Below w.heap.size w w') := Lib.hid fun w => by
    have := len_code s b n d l hs w
    rw [v, hl] at this
    exact this
  have hll := in_of hl
  have L := Lib.hid fun w => spec_near s b n d l 1 v hll.1 (by omega) (by omega) (by omega) w
  clear hll v hs hl
  generalize nearest b n d l 1 = r at L ⊢
  go_enter Try.func45, Try.ntmps45
  go_wp2_with fail
  refine (C.out _).mono ?_
  rintro e w1 ⟨rfl, b1⟩
  obtain ⟨hb1, k1⟩ := boxes1 b1
  have HB1 := Lib.hid hb1
  obtain ⟨x0, x1, x2, x3⟩ := blk4 k1
  clear b1 hb1 k1
  go_wp2_with fail
  refine (L.out _).mono ?_
  rintro e w2 ⟨rfl, b2⟩
  have HB2 := Lib.hid (below_then HB1.out b2)
  clear b2 x0 x1 x2 x3
  go_wp2_with fail
  go_ret2
  exact ⟨rfl, HB2.out⟩
set_option maxHeartbeats 1000000 in
theorem impl_yes (s : ByteArray) (b n d l : Int) (hs : s.size ≤ maxLen) (v : scB s b n d = true) (hl : inB l 0 5000 = true) (w : World) :
    Calls Try.prog 46 #[.agg #[.string s, .int .i64 b, .int .i64 n, .int .i64 d], .int .i64 l] w fun e w' => e = .returned (.tuple #[.int .i64 (nearest b n d l 1 : Int), .int .i64 0]) ∧ Below w.heap.size w w' := by
  have C := Lib.hid fun w => impl_ok s b n d hs w
  rw [v] at C
  have hll := in_of hl
  have L := Lib.hid fun w => nearest_half s b n d l 1 v hll.1 (by omega) (by omega) (by omega) w
  clear hll v hs
  generalize nearest b n d l 1 = r at L ⊢
  go_enter Try.func46, Try.ntmps46
  go_wp2_with fail
  refine (C.out _).mono ?_
  rintro e w1 ⟨rfl, b1⟩
  obtain ⟨hb1, k1⟩ := boxes1 b1
  have HB1 := Lib.hid hb1
  obtain ⟨x0, x1, x2, x3⟩ := blk4 k1
  have hlt := lt_of_heap k1
  clear b1 hb1 k1
  go_upto_region 4 with (first | (go_at_call 68; refine (within_any _ _ _ _).mono ?_; rintro e w' ⟨rfl, rfl⟩) | (go_at_call 69; refine (arg_ok _).mono ?_; rintro e w' ⟨rfl, rfl⟩))
  have LW := Lib.hid (fun p : Qb.Beyond w1 => Hf.W.iwhole l p.to)
  have LB := Lib.hid (fun p : Qb.Beyond w1 => L.out p.to)
  have x0' := Qb.bey_cell x0
  have x1' := Qb.bey_cell x1
  have x2' := Qb.bey_cell x2
  have x3' := Qb.bey_cell x3
  clear x0 x1 x2 x3 L
  refine Qb.wp_region_below (by kernel_rfl) (by kernel_rfl) ?_
  repeat (go_big_quiet_step (first | (go_at_call 64; with_reducible exact Qb.bey_of _ (LW.out _)) | (go_at_call 79; with_reducible exact Qb.bey_of _ (LB.out _))))
  refine wpQuiet_nil ?_
  rintro _ ⟨pq, rfl⟩
  have HB2 := Lib.hid (below_then HB1.out pq.h)
  generalize pq.to = w2 at HB2 ⊢
  clear x0' x1' x2' x3' LW LB
  go_wp2_with fail
  go_ret2
  exact ⟨rfl, HB2.out⟩
/-- What NearestHalf answers: half sizes and a code. -/
def nrV (s : ByteArray) (b n d l : Int) : Int := if hfB s b n d l then (nearest b n d l 1 : Int) else 0
def nrC (s : ByteArray) (b n d l : Int) : Int := argE (scB s b n d) (inB l 0 5000)
theorem nr_yes {s : ByteArray} {b n d l : Int} (h : hfB s b n d l = true) : nrV s b n d l = (nearest b n d l 1 : Int) ∧ nrC s b n d l = 0 := by
  unfold nrV nrC
  rw [h]
  unfold hfB at h
  simp only [Bool.and_eq_true] at h
  rw [h.1, h.2]
  exact ⟨rfl, rfl⟩
theorem nr_no {s : ByteArray} {b n d l : Int} (h : hfB s b n d l = false) : nrV s b n d l = 0 := by
  unfold nrV
  rw [h]
  rfl
theorem spec_all (s : ByteArray) (b n d l : Int) (hs : s.size ≤ maxLen) (w : World) : Calls Try.prog 45 #[.agg #[.string s, .int .i64 b, .int .i64 n, .int .i64 d], .int .i64 l] w fun e w' =>
      e = .returned (.tuple #[.int .i64 (nrV s b n d l), .int .i64 (nrC s b n d l)]) ∧ Below w.heap.size w w' := by
  cases h : hfB s b n d l
  · rw [nr_no h]
    exact spec_no s b n d l hs (hf_no h).2.2 w
  · rw [(nr_yes h).1, (nr_yes h).2]
    unfold hfB at h
    simp only [Bool.and_eq_true] at h
    exact spec_yes s b n d l hs h.1 h.2 w
theorem impl_all (s : ByteArray) (b n d l : Int) (hs : s.size ≤ maxLen) (w : World) : Calls Try.prog 46 #[.agg #[.string s, .int .i64 b, .int .i64 n, .int .i64 d], .int .i64 l] w fun e w' =>
      e = .returned (.tuple #[.int .i64 (nrV s b n d l), .int .i64 (nrC s b n d l)]) ∧ Below w.heap.size w w' := by
  cases h : hfB s b n d l
  · rw [nr_no h]
    exact impl_no s b n d l hs (hf_no h).2.2 w
  · rw [(nr_yes h).1, (nr_yes h).2]
    unfold hfB at h
    simp only [Bool.and_eq_true] at h
    exact impl_yes s b n d l hs h.1 h.2 w
end Go.Proofs.Ytgclhkiiaclkgaa.Nr
