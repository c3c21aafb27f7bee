/- HalfFor and NearestHalf: the spec's loops, the program's, and what both answer. -/
import Derived.Test.YtgclhkiiaclkgaaSwLib
import Derived.Test.YtgclhkiiaclkgaaQbLib
import Derived.Deep.DeepCutAuto
namespace Go.Proofs.Ytgclhkiiaclkgaa.Hf
open Go.RowKit Ba Nh Sc Fr Lh Sr Sw

namespace W
theorem iwhole (n : Int) (w : World) : Calls Try.prog 64 #[.int .i64 n] w fun e w' => e = .returned (.agg #[.int .i64 n, .int .i64 1]) ∧ Below w.heap.size w w' := by
  go_enter Try.func64, Try.ntmps64
  go_wp2
  exact bodyPost_ret (v := .agg #[.int .i64 n, .int .i64 1]) (by simp [results, Try.results64, go_sem]) rfl ⟨rfl, by repeat (first | exact Below.refl _ _ | exact below_box _ _ | refine Below.setCell ?_ (by simp) _ | refine Below.alloc ?_ (by simp) _)⟩
end W

theorem len_code (s : ByteArray) (b n d l : Int) (hs : s.size ≤ maxLen) (w : World) : Calls Try.prog 75 #[.agg #[.string s, .int .i64 b, .int .i64 n, .int .i64 d], .int .i64 l] w fun e w' => e = .returned (.int .i64 (argE (scB s b n d) (inB l 0 5000))) ∧ Below w.heap.size w w' := by
  have C := Lib.hid fun w => ok_any s b n d hs w
  clear hs
  cases v : scB s b n d <;> rw [v] at C <;> cases r : inB l 0 5000
  all_goals
    go_enter Try.func75, Try.ntmps75
    go_wp2_with fail
    refine (C.out _).mono ?_
    rintro e w1 ⟨rfl, b1⟩
    have HB := Lib.hid (below_then (below_box _ _) b1)
    clear b1
    go_wp2_with (go_at_call 67; refine (in_any _ _ _ _).mono ?_; rintro e w' ⟨rfl, rfl⟩)
    go_ret
    exact ⟨rfl, HB.out⟩
/-- What HalfFor answers for arguments that are as they must be. -/
def hfE (r : Nat) : Value := if r < 121 then .tuple #[.int .i64 (r : Int), .int .i64 0] else .tuple #[.int .i64 0, .int .i64 3]

set_option maxHeartbeats 1000000 in
theorem spec_half (s : ByteArray) (b n d l : Int) (hs : s.size ≤ maxLen) (v : scB s b n d = true) (hl : inB l 0 5000 = true) (w : World) :
    Calls Try.prog 42 #[.agg #[.string s, .int .i64 b, .int .i64 n, .int .i64 d], .int .i64 l] w fun e w' => e = .returned (hfE (least b n l d)) ∧ Below w.heap.size w w' := by
  have C : Hid (∀ w : World, Calls Try.prog 75 #[.agg #[.string s, .int .i64 b, .int .i64 n, .int .i64 d], .int .i64 l] w fun e w' => e = .returned (.int .i64 0) ∧ Below w.heap.size w w') := Lib.hid fun w => by
    have := len_code s b n d l hs w
    rw [v, hl] at this
    exact this
  have hv := sc_of v
  have hll := in_of hl
  have hlow : least b n l d ≤ 121 := cut_le _ _
  have AT := Lib.hid (least_at b n d l (by omega))
  have PB := Lib.hid fun (k : Nat) (hk : k < 121) => num_bd v (half_in hk (Nat.le_refl _))
  have m1 := Int.mul_nonneg hll.1 (show 0 ≤ d by omega)
  have m2 := Int.mul_le_mul hll.2 (show d ≤ 100 by omega) (by omega) (by omega)
  have m3 : l * d ≤ 500000 := by omega
  generalize least b n l d = r at AT hlow ⊢
  have e1 : 0 ≤ b := by omega
  have e2 : b ≤ 100 := by omega
  clear hv hll v hl hs m2
  go_enter Try.func42, Try.ntmps42
  go_wp2_with fail
  refine (C.out _).mono ?_
  rintro e w1 ⟨rfl, b1⟩
  have HB1 := Lib.hid (below_then (below_box _ _) b1)
  have K1 := Lib.hid (blk_keep b1 (blk_new _ _))
  clear b1
  go_wp2_with fail
  go_loop [7] (fun x => ∃ k : Nat, k ≤ r ∧ k ≤ 121 ∧ x = .int .i64 k) (fun x => 121 - (intOf x).toNat)
  case atStart => exact ⟨0, Nat.zero_le _, by omega, rfl⟩
  case round =>
    obtain ⟨k, hkr, hk, rfl⟩ := hrel
    obtain ⟨x0, x1, x2, x3⟩ := blk4 K1.out
    by_cases hlt : k < 121
    · obtain ⟨p1, p2, p3, p4⟩ := PB.out k hlt
      have ha := AT.out k hlt
      unfold reach at ha
      by_cases hlr : k < r
      · rw [show decide (r ≤ k) = false by simp; omega] at ha
        have ht : ((k : Int) + b) * n < l * d := by simpa using ha
        clear ha
        go_wp2_with fail
        go_round
        case rel => exact ⟨k + 1, by omega, by omega, by go_num⟩
        case measure => simp [intOf]; omega
      · obtain rfl : r = k := by omega
        rw [show decide (r ≤ r) = true by simp] at ha
        have ht : l * d ≤ ((r : Int) + b) * n := by simpa using ha
        have HE : Hid (hfE r = .tuple #[.int .i64 (r : Int), .int .i64 0]) := Lib.hid (by unfold hfE; rw [if_pos hlt])
        clear ha
        go_wp2_with fail
        go_ret2
        exact ⟨by rw [HE.out]; first | done | rfl, HB1.out⟩
    · have HE : Hid (hfE r = .tuple #[.int .i64 0, .int .i64 3]) := Lib.hid (by unfold hfE; rw [if_neg (by omega)])
      go_wp2_with fail
      go_ret2
      exact ⟨by rw [HE.out]; first | done | rfl, HB1.out⟩
set_option maxHeartbeats 1000000 in
theorem impl_half (s : ByteArray) (b n d l : Int) (hs : s.size ≤ maxLen) (v : scB s b n d = true) (hl : inB l 0 5000 = true) (w : World) :
    Calls Try.prog 44 #[.agg #[.string s, .int .i64 b, .int .i64 n, .int .i64 d], .int .i64 l] w fun e w' => e = .returned (hfE (least b n l d)) ∧ Below w.heap.size w w' := by
  have C := Lib.hid fun w => impl_ok s b n d hs w
  rw [v] at C
  have hll := in_of hl
  have L := Lib.hid fun w => least_half s b n d l v hll.1 hll.2 w
  have hlow : least b n l d ≤ 121 := cut_le _ _
  clear hll v hs
  generalize least b n l d = r at L hlow ⊢
  by_cases hr : r < 121
  · have HE : Hid (hfE r = .tuple #[.int .i64 (r : Int), .int .i64 0]) := Lib.hid (by unfold hfE; rw [if_pos hr])
    go_enter Try.func44, Try.ntmps44
    go_wp2_with fail
    refine (C.out _).mono ?_
    rintro e w1 ⟨rfl, b1⟩
    obtain ⟨hb1, k1⟩ := boxes1 b1
    have HB1 := Lib.hid hb1
    obtain ⟨x0, x1, x2, x3⟩ := blk4 k1
    have hlt := lt_of_heap k1
    clear b1 hb1 k1
    go_upto_region 4 with (first | (go_at_call 68; refine (within_any _ _ _ _).mono ?_; rintro e w' ⟨rfl, rfl⟩) | (go_at_call 69; refine (arg_ok _).mono ?_; rintro e w' ⟨rfl, rfl⟩))
    have LW := Lib.hid (fun p : Qb.Beyond w1 => W.iwhole l p.to)
    have LB := Lib.hid (fun p : Qb.Beyond w1 => L.out p.to)
    have x0' := Qb.bey_cell x0
    have x1' := Qb.bey_cell x1
    have x2' := Qb.bey_cell x2
    have x3' := Qb.bey_cell x3
    clear x0 x1 x2 x3 L
    refine Qb.wp_region_below (by kernel_rfl) (by kernel_rfl) ?_
    repeat (go_big_quiet_step (first | (go_at_call 64; with_reducible exact Qb.bey_of _ (LW.out _)) | (go_at_call 77; with_reducible exact Qb.bey_of _ (LB.out _))))
    refine wpQuiet_nil ?_
    rintro _ ⟨pq, rfl⟩
    have HB2 := Lib.hid (below_then HB1.out pq.h)
    generalize pq.to = w2 at HB2 ⊢
    clear x0' x1' x2' x3' LW LB
    go_wp2_with fail
    go_ret2
    exact ⟨by rw [HE.out]; first | done | rfl, HB2.out⟩
  · have HE : Hid (hfE r = .tuple #[.int .i64 0, .int .i64 3]) := Lib.hid (by unfold hfE; rw [if_neg hr])
    have hr' : 120 < r := by omega
    clear hr
    go_enter Try.func44, Try.ntmps44
    go_wp2_with fail
    refine (C.out _).mono ?_
    rintro e w1 ⟨rfl, b1⟩
    obtain ⟨hb1, k1⟩ := boxes1 b1
    have HB1 := Lib.hid hb1
    obtain ⟨x0, x1, x2, x3⟩ := blk4 k1
    have hlt := lt_of_heap k1
    clear b1 hb1 k1
    go_upto_region 4 with (first | (go_at_call 68; refine (within_any _ _ _ _).mono ?_; rintro e w' ⟨rfl, rfl⟩) | (go_at_call 69; refine (arg_ok _).mono ?_; rintro e w' ⟨rfl, rfl⟩))
    have LW := Lib.hid (fun p : Qb.Beyond w1 => W.iwhole l p.to)
    have LB := Lib.hid (fun p : Qb.Beyond w1 => L.out p.to)
    have x0' := Qb.bey_cell x0
    have x1' := Qb.bey_cell x1
    have x2' := Qb.bey_cell x2
    have x3' := Qb.bey_cell x3
    clear x0 x1 x2 x3 L
    refine Qb.wp_region_below (by kernel_rfl) (by kernel_rfl) ?_
    repeat (go_big_quiet_step (first | (go_at_call 64; with_reducible exact Qb.bey_of _ (LW.out _)) | (go_at_call 77; with_reducible exact Qb.bey_of _ (LB.out _))))
    refine wpQuiet_nil ?_
    rintro _ ⟨pq, rfl⟩
    have HB2 := Lib.hid (below_then HB1.out pq.h)
    generalize pq.to = w2 at HB2 ⊢
    clear x0' x1' x2' x3' LW LB
    go_wp2_with fail
    go_ret2
    exact ⟨by rw [HE.out]; first | done | rfl, HB2.out⟩

theorem spec_no (s : ByteArray) (b n d l : Int) (hs : s.size ≤ maxLen) (ha : (argE (scB s b n d) (inB l 0 5000) != 0) = true) (w : World) :
    Calls Try.prog 42 #[.agg #[.string s, .int .i64 b, .int .i64 n, .int .i64 d], .int .i64 l] w fun e w' =>
      e = .returned (.tuple #[.int .i64 0, .int .i64 (argE (scB s b n d) (inB l 0 5000))]) ∧ Below w.heap.size w w' := by
  have C := Lib.hid fun w => len_code s b n d l hs w
  generalize argE (scB s b n d) (inB l 0 5000) = c at ha C ⊢
  go_enter Try.func42, Try.ntmps42
  go_wp2_with fail
  refine (C.out _).mono ?_
  rintro e w1 ⟨rfl, b1⟩
  have HB1 := Lib.hid (below_then (below_box _ _) b1)
  clear b1
  go_wp2_with fail
  go_ret2
  exact ⟨rfl, HB1.out⟩
theorem impl_no (s : ByteArray) (b n d l : Int) (hs : s.size ≤ maxLen) (ha : (argE (scB s b n d) (inB l 0 5000) != 0) = true) (w : World) :
    Calls Try.prog 44 #[.agg #[.string s, .int .i64 b, .int .i64 n, .int .i64 d], .int .i64 l] w fun e w' =>
      e = .returned (.tuple #[.int .i64 0, .int .i64 (argE (scB s b n d) (inB l 0 5000))]) ∧ Below w.heap.size w w' := by
  have C := Lib.hid fun w => impl_ok s b n d hs w
  have D := Lib.hid fun w => arg_any (scB s b n d) (inB l 0 5000) w
  generalize argE (scB s b n d) (inB l 0 5000) = c at ha D ⊢
  generalize scB s b n d = v at C D
  generalize hh : inB l 0 5000 = hv at D
  go_enter Try.func44, Try.ntmps44
  go_wp2_with fail
  refine (C.out _).mono ?_
  rintro e w1 ⟨rfl, b1⟩
  have HB1 := Lib.hid (below_then (below_box _ _) b1)
  clear b1
  go_wp2_with (first | (go_at_call 68; refine (within_any _ _ _ _).mono ?_; rw [hh]; rintro e w' ⟨rfl, rfl⟩) | (go_at_call 69; refine (D.out _).mono ?_; rintro e w' ⟨rfl, rfl⟩))
  go_ret2
  exact ⟨rfl, HB1.out⟩
/-- What HalfFor answers: half sizes and a code. -/
def hfB (s : ByteArray) (b n d l : Int) : Bool := scB s b n d && inB l 0 5000
def hfV (s : ByteArray) (b n d l : Int) : Int := if hfB s b n d l then (if least b n l d < 121 then (least b n l d : Int) else 0) else 0
def hfC (s : ByteArray) (b n d l : Int) : Int := if hfB s b n d l then (if least b n l d < 121 then 0 else 3) else argE (scB s b n d) (inB l 0 5000)
theorem hf_yes {s : ByteArray} {b n d l : Int} (h : hfB s b n d l = true) : hfE (least b n l d) = .tuple #[.int .i64 (hfV s b n d l), .int .i64 (hfC s b n d l)] := by
  unfold hfE hfV hfC
  rw [h]
  simp only [if_true]
  split <;> rfl
theorem hf_no {s : ByteArray} {b n d l : Int} (h : hfB s b n d l = false) : hfV s b n d l = 0 ∧ hfC s b n d l = argE (scB s b n d) (inB l 0 5000) ∧ (argE (scB s b n d) (inB l 0 5000) != 0) = true := by
  unfold hfV hfC
  rw [h]
  refine ⟨rfl, rfl, ?_⟩
  unfold hfB at h
  cases v : scB s b n d <;> cases r : inB l 0 5000 <;> rw [v, r] at h <;> first | rfl | cases h
theorem spec_all (s : ByteArray) (b n d l : Int) (hs : s.size ≤ maxLen) (w : World) : Calls Try.prog 42 #[.agg #[.string s, .int .i64 b, .int .i64 n, .int .i64 d], .int .i64 l] w fun e w' =>
      e = .returned (.tuple #[.int .i64 (hfV s b n d l), .int .i64 (hfC s b n d l)]) ∧ Below w.heap.size w w' := by
  cases h : hfB s b n d l
  · obtain ⟨e1, e2, e3⟩ := hf_no h
    rw [e1, e2]
    exact spec_no s b n d l hs e3 w
  · rw [← hf_yes h]
    unfold hfB at h
    simp only [Bool.and_eq_true] at h
    exact spec_half s b n d l hs h.1 h.2 w
theorem impl_all (s : ByteArray) (b n d l : Int) (hs : s.size ≤ maxLen) (w : World) : Calls Try.prog 44 #[.agg #[.string s, .int .i64 b, .int .i64 n, .int .i64 d], .int .i64 l] w fun e w' =>
      e = .returned (.tuple #[.int .i64 (hfV s b n d l), .int .i64 (hfC s b n d l)]) ∧ Below w.heap.size w w' := by
  cases h : hfB s b n d l
  · obtain ⟨e1, e2, e3⟩ := hf_no h
    rw [e1, e2]
    exact impl_no s b n d l hs e3 w
  · rw [← hf_yes h]
    unfold hfB at h
    simp only [Bool.and_eq_true] at h
    exact impl_half s b n d l hs h.1 h.2 w
end Go.Proofs.Ytgclhkiiaclkgaa.Hf
