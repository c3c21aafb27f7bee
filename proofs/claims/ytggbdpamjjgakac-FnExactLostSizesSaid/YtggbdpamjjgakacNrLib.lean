/- NearestHalf: the spec's loop for the nearest half sizes, the program's, and what both answer. -/
import Derived.Test.YtggbdpamjjgakacHfLib
namespace Go.Proofs.Ytggbdpamjjgakac.Nr
open Go.RowKit Ba Nh Sc Fr Lh Sr Sw Hf

theorem gap_eq (b n d p q t : Int) : ab ((t + b) * n * q - p * d) = gap b n d p q t := rfl
set_option maxHeartbeats 2000000 in
/-- The spec's loop: the nearest half sizes to p / q. -/
theorem spec_near (s : ByteArray) (b n d p q : Int) (v : scB s b n d = true) (hp : 0 ≤ p) (hp' : p ≤ 220000) (hq : 0 < q) (hq' : q ≤ 100) (w : World) :
    Calls Try.prog 21 #[.agg #[.string s, .int .i64 b, .int .i64 n, .int .i64 d], .int .i64 p, .int .i64 q] w fun e w' => e = .returned (.int .i64 (nearest b n d p q : Int)) ∧ Below w.heap.size w w' := by
  have hv := sc_of v
  have PB := Lib.hid fun (k : Nat) (hk : k ≤ 120) => by
    have h1 := num_bd v (half_in (show k < 121 by omega) (Nat.le_refl _))
    have h2 := Int.mul_nonneg h1.1 (Int.le_of_lt hq)
    have h3 := Int.mul_le_mul h1.2.1 hq' (Int.le_of_lt hq) (by omega)
    exact (⟨h1.1, h1.2.1, h2, by omega⟩ : 0 ≤ ((k : Int) + b) * n ∧ ((k : Int) + b) * n ≤ 220000 ∧ 0 ≤ ((k : Int) + b) * n * q ∧ ((k : Int) + b) * n * q ≤ 22000000)
  have BS := Lib.hid fun (k : Nat) (h0 : 0 < k) (hk : k ≤ 120) => best_step (b := b) (d := d) (num := p) (show 0 < n by omega) hq k h0 hk
  have BE := Lib.hid (best_end b n d p q)
  have m1 := Int.mul_nonneg hp (show 0 ≤ d by omega)
  have m2 := Int.mul_le_mul hp' (show d ≤ 100 by omega) (by omega) (by omega)
  have m3 : p * d ≤ 22000000 := by omega
  have e1 : 0 ≤ b := by omega
  have e2 : b ≤ 100 := by omega
  have HG := Lib.hid fun t => gap_eq b n d p q t
  clear hv v m2
  generalize nearest b n d p q = r at BS BE ⊢
  have SZ := Lib.hid fun (t : Nat) (ht : t ≤ 120) w => (by
    have h := PB.out t ht
    have := ssize (((t : Int) + b) * n * q - p * d) (by omega) w
    rw [HG.out] at this
    exact this : Calls Try.prog 34 #[.int .i64 (((t : Int) + b) * n * q - p * d)] w fun e w' => e = .returned (.int .i64 (gap b n d p q t)) ∧ w = w')
  go_enter Try.func21, Try.ntmps21
  go_wp2_with fail
  have K0 := Lib.hid (blk_new w (.cells #[.string s, .int .i64 b, .int .i64 n, .int .i64 d] 28))
  have HB0 := Lib.hid (below_box w (.cells #[.string s, .int .i64 b, .int .i64 n, .int .i64 d] 28))
  generalize w.alloc (.cells #[.string s, .int .i64 b, .int .i64 n, .int .i64 d] 28) = W at K0 HB0 ⊢
  go_loop [7, 8] (fun x y => ∃ k : Nat, 0 < k ∧ k ≤ 121 ∧ y = .int .i64 k ∧ x = .int .i64 ((min r (k - 1) : Nat) : Int)) (fun _ y => 121 - (intOf y).toNat)
  case atStart => exact ⟨1, by omega, by omega, rfl, by simp⟩
  case round =>
    obtain ⟨k, hk0, hk, rfl, rfl⟩ := hrel
    obtain ⟨x0, x1, x2, x3⟩ := blk4 K0.out
    by_cases hlt : k < 121
    · obtain ⟨bs1, bs2⟩ := BS.out k hk0 (by omega)
      have hm : min r (k - 1) ≤ 120 := by omega
      generalize min r (k - 1) = m at bs1 bs2 hm ⊢
      obtain ⟨p1, p2, p3, p4⟩ := PB.out k (by omega)
      obtain ⟨u1, u2, u3, u4⟩ := PB.out m hm
      have S1 := Lib.hid (SZ.out k (by omega) W)
      have S2 := Lib.hid (SZ.out m hm W)
      have B1 := Lib.hid bs1
      have B2 := Lib.hid bs2
      clear bs1 bs2
      generalize gap b n d p q (k : Int) = gk at S1 B1
      generalize gap b n d p q (m : Int) = gm at S2 B1
      by_cases hlr : k ≤ r
      · have hg := B1.out.2 hlr
        have HE : Hid (min r k = k) := Lib.hid (by rw [B2.out, if_pos hlr])
        go_wp2_with fail
        refine S1.out.mono ?_
        rintro e w' ⟨rfl, rfl⟩
        go_wp2_with fail
        refine S2.out.mono ?_
        rintro e w' ⟨rfl, rfl⟩
        go_wp2_with fail
        go_round
        case rel => exact ⟨k + 1, by omega, by omega, by go_num, by rw [show k + 1 - 1 = k by omega, HE.out]⟩
        case measure => simp [intOf]; omega
      · have hg : ¬ gk < gm := fun h => hlr (B1.out.1 h)
        have HE : Hid (min r k = m) := Lib.hid (by rw [B2.out, if_neg hlr])
        go_wp2_with fail
        refine S1.out.mono ?_
        rintro e w' ⟨rfl, rfl⟩
        go_wp2_with fail
        refine S2.out.mono ?_
        rintro e w' ⟨rfl, rfl⟩
        go_wp2_with fail
        go_round
        case rel => exact ⟨k + 1, by omega, by omega, by go_num, by rw [show k + 1 - 1 = k by omega, HE.out]⟩
        case measure => simp [intOf]; omega
    · obtain rfl : k = 121 := by omega
      have HE : Hid (min r (121 - 1) = r) := Lib.hid BE.out
      generalize min r (121 - 1) = m at HE ⊢
      go_wp2_with fail
      go_ret
      exact ⟨ret_int (by rw [HE.out]), HB0.out⟩
/-- What NearestHalf answers: half sizes and a code. -/
def nrV (s : ByteArray) (b n d l : Int) : Int := if hfB s b n d l then (nearest b n d l 1 : Int) else 0
def nrC (s : ByteArray) (b n d l : Int) : Int := argE (scB s b n d) (inB l 0 5000)
theorem nr_yes {s : ByteArray} {b n d l : Int} (h : hfB s b n d l = true) : nrV s b n d l = (nearest b n d l 1 : Int) ∧ nrC s b n d l = 0 := by
  unfold nrV nrC
  rw [h]
  unfold hfB at h
  simp only [Bool.and_eq_true] at h
  rw [h.1, h.2]
  exact ⟨rfl, rfl⟩
theorem nr_no {s : ByteArray} {b n d l : Int} (h : hfB s b n d l = false) : nrV s b n d l = 0 := by
  unfold nrV
  rw [h]
  rfl
end Go.Proofs.Ytggbdpamjjgakac.Nr
