/- Lists of numbers between two others, lists that rise, layers: spec and program. -/
import Derived.Test.YtpmmfalpcooenabAwLib
import Derived.Test.YtpmmfalpcooenabKnLib
import Derived.Test.YtpmmfalpcooenabIcLib
import Derived.RegionTactic
namespace Go.Proofs.Ytpmmfalpcooenab.Ly
open Go.RowKit Ft Is Ge Qb

/-- .. that rise. -/
def Ri (lo hi : Int) (n : Nat) (d : Nat → Int) : Prop := Al lo hi n d ∧ ∀ i, i + 1 < n → d i < d (i + 1)
theorem ri_not {lo hi : Int} {n : Nat} {d : Nat → Int} {k : Nat} (hk : k < n) (h : inB (d k) lo hi = false) : ¬ Ri lo hi n d := fun e => by rw [e.1 k hk] at h; cases h
theorem ri_ord {lo hi : Int} {n : Nat} {d : Nat → Int} {k : Nat} (hk : k + 1 < n) (h : d (k + 1) ≤ d k) : ¬ Ri lo hi n d := fun e => by have := e.2 k hk; omega
theorem ord_step {d : Nat → Int} {k : Nat} (h : ∀ j, j + 1 < k + 1 → d j < d (j + 1)) (hk : d k < d (k + 1)) : ∀ j, j + 1 < k + 1 + 1 → d j < d (j + 1) := fun j hj => by
  by_cases e : j = k
  · rw [e]; exact hk
  · exact h j (by omega)
/-- Layers. -/
def LyP (n : Nat) (d : Nat → Int) : Prop := (1 ≤ n ∧ n ≤ 8) ∧ Ri 1 200 n d

set_option maxRecDepth 100000 in
set_option maxHeartbeats 1000000 in
theorem spec_rises (lo hi : Int) (A : Option Addr) (n c : Nat) (d : Nat → Int) (hn : n ≤ 1048576) (w : World) (hA : Nums w w.heap.size A n d) : Calls Try.prog 109 #[.slice A n c, .int .i64 lo, .int .i64 hi] w (Tells (Ri lo hi n d) w) := by
  have HA := Lib.hid hA
  clear hA
  go_enter Try.func109, Try.ntmps109
  go_wp2_with fail
  go_loopw [7] (fun i wr => ∃ k : Nat, k ≤ n ∧ i = .int .i64 k ∧ Below w.heap.size w wr ∧ Hid (∀ j, j < k → inB (d j) lo hi = true) ∧ Hid (∀ j, j + 1 < k → d j < d (j + 1))) (fun i _ => n - (intOf i).toNat)
  case atStart => exact ⟨0, Nat.zero_le _, rfl, Below.refl _ _, Lib.hid fun j hj => by omega, Lib.hid fun j hj => by omega⟩
  case round =>
    obtain ⟨k, hk, rfl, hbel, hall, hord⟩ := hrel
    have HB := Lib.hid hbel
    by_cases hlt : k < n
    · obtain ⟨b, off, rfl, hb, hc⟩ := (HA.out.below hbel (Nat.le_refl _)) (by omega)
      have HC := Lib.hid hc
      have x0 := bey_cell (hc k hlt)
      have C := Lib.hid (fun w => in_any (d k) lo hi w)
      have HN := Lib.hid (ri_not (lo := lo) (hi := hi) (d := d) hlt)
      have HS := Lib.hid (fun h => step_all (p := fun j => inB (d j) lo hi) hall.out (k := k) h)
      have e0 : (0 : Int) ≤ (k : Int) := Int.natCast_nonneg _
      have e1 : (k : Int) < (n : Int) := by omega
      generalize inB (d k) lo hi = r at C HN HS
      clear hc hbel
      cases r
      · have HF := Lib.hid (HN.out rfl)
        go_wp2_with fail
        refine wp_region_below (by kernel_rfl) (by kernel_rfl) ?_
        repeat (go_big_quiet_step ((go_at_call 75; exact bey_same _ (C.out _))))
        refine wpQuiet_nil ?_
        rintro _ ⟨pq, rfl⟩
        have HQ := Lib.hid (HB.out.trans (pq.h.mono HB.out.size))
        generalize pq.to = wq at HQ ⊢
        go_wp2_with fail
        go_ret
        exact tells_no HF.out HQ.out
      · have HD := Lib.hid (HS.out rfl)
        by_cases hz : k = 0
        · subst hz
          simp only [Nat.add_zero] at x0
          go_wp2_with fail
          refine wp_region_below (by kernel_rfl) (by kernel_rfl) ?_
          repeat (go_big_quiet_step ((go_at_call 75; exact bey_same _ (C.out _))))
          refine wpQuiet_nil ?_
          rintro _ ⟨pq, rfl⟩
          have HQ := Lib.hid (HB.out.trans (pq.h.mono HB.out.size))
          generalize pq.to = wq at HQ ⊢
          go_wp2_with fail
          go_roundw
          case rel => exact ⟨1, by omega, by go_num, HQ.out, HD, Lib.hid fun j hj => by omega⟩
          case measure => simp [intOf]; omega
        · obtain ⟨p, rfl⟩ : ∃ p, k = p + 1 := ⟨k - 1, by omega⟩
          have y0 := bey_cell (HC.out p (by omega))
          have hgt : (0 : Int) < ((p + 1 : Nat) : Int) := by omega
          have e2 : ((p + 1 : Nat) : Int) - 1 = (p : Int) := by omega
          by_cases hq : d p < d (p + 1)
          · have HD2 := Lib.hid (ord_step hord.out hq)
            have hq' : ¬ d (p + 1) ≤ d p := by omega
            generalize d p = u at y0 hq hq'
            generalize d (p + 1) = v at x0 C hq hq'
            go_wp2_with fail
            refine wp_region_below (by kernel_rfl) (by kernel_rfl) ?_
            repeat (go_big_quiet_step ((go_at_call 75; exact bey_same _ (C.out _))))
            refine wpQuiet_nil ?_
            rintro _ ⟨pq, rfl⟩
            have HQ := Lib.hid (HB.out.trans (pq.h.mono HB.out.size))
            generalize pq.to = wq at HQ ⊢
            go_wp2_with fail
            go_roundw
            case rel => exact ⟨p + 1 + 1, by omega, by go_num, HQ.out, HD, HD2⟩
            case measure => simp [intOf]; omega
          · have HF := Lib.hid (ri_ord (lo := lo) (hi := hi) (d := d) hlt (by omega))
            have hq' : d (p + 1) ≤ d p := by omega
            generalize d p = u at y0 hq hq'
            generalize d (p + 1) = v at x0 C hq hq'
            go_wp2_with fail
            refine wp_region_below (by kernel_rfl) (by kernel_rfl) ?_
            repeat (go_big_quiet_step ((go_at_call 75; exact bey_same _ (C.out _))))
            refine wpQuiet_nil ?_
            rintro _ ⟨pq, rfl⟩
            have HQ := Lib.hid (HB.out.trans (pq.h.mono HB.out.size))
            generalize pq.to = wq at HQ ⊢
            go_wp2_with fail
            go_ret
            exact tells_no HF.out HQ.out
    · obtain rfl : k = n := by omega
      have HF : Hid (Ri lo hi k d) := Lib.hid ⟨hall.out, hord.out⟩
      go_wp2_with fail
      go_ret
      exact tells_yes HF.out HB.out

theorem spec_ok (A : Option Addr) (n c : Nat) (d : Nat → Int) (hn : n ≤ 1048576) (w : World) (hA : Nums w w.heap.size A n d) :
    Calls Try.prog 68 #[.slice A n c] w fun e w' => e = .returned (.bool (tv (LyP n d))) ∧ Below w.heap.size w w' := by
  have C1 := Lib.hid (in_any (n : Int) 1 8 w)
  have C2 := Lib.hid ((spec_rises 1 200 A n c d hn w hA).mono fun _ _ t => tells_tv t)
  have HN : Hid (inB (n : Int) 1 8 = false → tv (LyP n d) = false) := Lib.hid fun h => tv_no fun e => by
    have := e.1
    rw [in_yes (by omega) (by omega)] at h
    cases h
  have HY : Hid (inB (n : Int) 1 8 = true → tv (LyP n d) = tv (Ri 1 200 n d)) := Lib.hid fun h => by
    have h1 := in_of h
    by_cases q : Ri 1 200 n d
    · rw [tv_yes q, tv_yes ⟨by omega, q⟩]
    · rw [tv_no q, tv_no fun e => q e.2]
  generalize inB (n : Int) 1 8 = r1 at C1 HN HY
  generalize tv (Ri 1 200 n d) = r2 at C2 HY
  generalize tv (LyP n d) = r3 at HN HY ⊢
  cases r1
  · have HF := Lib.hid (HN.out rfl)
    go_enter Try.func68, Try.ntmps68
    go_wp2_with fail
    refine C1.out.mono ?_
    rintro e w' ⟨rfl, rfl⟩
    go_wp2_with fail
    go_ret
    exact ⟨Ba.ret_bool HF.out.symm, Below.refl _ _⟩
  · have HF := Lib.hid (HY.out rfl)
    go_enter Try.func68, Try.ntmps68
    go_wp2_with fail
    refine C1.out.mono ?_
    rintro e w' ⟨rfl, rfl⟩
    go_wp2_with fail
    refine C2.out.mono ?_
    rintro e w1 ⟨rfl, b1⟩
    go_wp2_with fail
    go_ret
    exact ⟨Ba.ret_bool HF.out.symm, b1⟩
theorem spec_valid (A : Option Addr) (n c : Nat) (d : Nat → Int) (hn : n ≤ 1048576) (w : World) (hA : Nums w w.heap.size A n d) :
    Calls Try.prog 25 #[.slice A n c] w fun e w' => e = .returned (.bool (tv (LyP n d))) ∧ Below w.heap.size w w' := by
  have C := Lib.hid (spec_ok A n c d hn w hA)
  generalize tv (LyP n d) = r at C ⊢
  go_enter Try.func25, Try.ntmps25
  go_wp2_with fail
  refine C.out.mono ?_
  rintro e w1 ⟨rfl, b1⟩
  go_wp2_with fail
  go_ret
  exact ⟨rfl, b1⟩
set_option maxRecDepth 100000 in
set_option maxHeartbeats 1000000 in
theorem impl_valid (A : Option Addr) (n c : Nat) (d : Nat → Int) (hn : n ≤ 1048576) (w : World) (hA : Nums w w.heap.size A n d) :
    Calls Try.prog 26 #[.slice A n c] w fun e w' => e = .returned (.bool (tv (LyP n d))) ∧ Below w.heap.size w w' := by
  have C0 := Lib.hid (within_any (n : Int) 1 8 w)
  have C1 := Lib.hid (are_any 1 200 A n c d hn w hA)
  have C2 := Lib.hid (Ic.inc_any A n c d hn w hA)
  have H0 : Hid (inB (n : Int) 1 8 = false → tv (LyP n d) = false) := Lib.hid fun h => tv_no fun e => by
    rw [in_yes (by have := e.1; omega) (by have := e.1; omega)] at h; cases h
  have H1 : Hid (tv (Al 1 200 n d) = false → tv (LyP n d) = false) := Lib.hid fun h => tv_no fun e => by rw [tv_yes e.2.1] at h; cases h
  have H2 : Hid (inB (n : Int) 1 8 = true → tv (Al 1 200 n d) = true → tv (LyP n d) = tv (Ic.Up n d)) := Lib.hid fun h0 h1 => by
    have h3 := in_of h0
    by_cases q : Ic.Up n d
    · rw [tv_yes q, tv_yes ⟨by omega, tv_iff.1 h1, q⟩]
    · rw [tv_no q, tv_no fun e => q e.2.2]
  generalize inB (n : Int) 1 8 = r0 at C0 H0 H2
  generalize tv (Al 1 200 n d) = r1 at C1 H1 H2
  generalize tv (Ic.Up n d) = r2 at C2 H2
  generalize tv (LyP n d) = r at H0 H1 H2 ⊢
  clear hA
  go_enter Try.func26, Try.ntmps26
  go_wp2_with fail
  refine C0.out.mono ?_
  rintro e w' ⟨rfl, rfl⟩
  cases r0
  · have HF := Lib.hid (H0.out rfl)
    go_wp2_with fail
    go_ret
    exact ⟨Ba.ret_bool HF.out.symm, Below.refl _ _⟩
  go_wp2_with fail
  refine C1.out.mono ?_
  rintro e w' ⟨rfl, rfl⟩
  cases r1
  · have HF := Lib.hid (H1.out rfl)
    go_wp2_with fail
    go_ret
    exact ⟨Ba.ret_bool HF.out.symm, Below.refl _ _⟩
  have HF := Lib.hid (H2.out (by first | rfl | trivial) (by first | rfl | trivial))
  go_wp2_with fail
  refine C2.out.mono ?_
  rintro e w1 ⟨rfl, b1⟩
  go_wp2_with fail
  go_ret
  exact ⟨Ba.ret_bool HF.out.symm, b1⟩
/-- Layers have what the builds ask. -/
theorem lay_of {n : Nat} {d : Nat → Int} (h : LyP n d) : ∀ i, i < n → 1 ≤ d i ∧ d i ≤ 200 := fun i hi => in_of (h.2.1 i hi)
theorem lay_lt {n : Nat} {d : Nat → Int} (h : LyP n d) : ∀ k i, i + k + 1 < n → d i < d (i + k + 1)
  | 0, i, hi => h.2.2 i (by omega)
  | k + 1, i, hi => Int.lt_trans (lay_lt h k i (by omega)) (h.2.2 (i + k + 1) (by omega))
end Go.Proofs.Ytpmmfalpcooenab.Ly
