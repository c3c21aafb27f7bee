/- Lists of numbers between two others, lists that rise, layers: spec and program. -/
import Derived.Test.YtaoknbhpjnileaaAwLib
import Derived.Test.YtaoknbhpjnileaaKnLib
import Derived.RegionTactic
namespace Go.Proofs.Ytaoknbhpjnileaa.Ly
open Go.RowKit Ft Is Ge Qb

/-- .. that rise. -/
def Ri (lo hi : Int) (n : Nat) (d : Nat → Int) : Prop := Al lo hi n d ∧ ∀ i, i + 1 < n → d i < d (i + 1)
theorem ri_not {lo hi : Int} {n : Nat} {d : Nat → Int} {k : Nat} (hk : k < n) (h : inB (d k) lo hi = false) : ¬ Ri lo hi n d := fun e => by rw [e.1 k hk] at h; cases h
theorem ri_ord {lo hi : Int} {n : Nat} {d : Nat → Int} {k : Nat} (hk : k + 1 < n) (h : d (k + 1) ≤ d k) : ¬ Ri lo hi n d := fun e => by have := e.2 k hk; omega
theorem ord_step {d : Nat → Int} {k : Nat} (h : ∀ j, j + 1 < k + 1 → d j < d (j + 1)) (hk : d k < d (k + 1)) : ∀ j, j + 1 < k + 1 + 1 → d j < d (j + 1) := fun j hj => by
  by_cases e : j = k
  · rw [e]; exact hk
  · exact h j (by omega)
/-- Layers. -/
def LyP (n : Nat) (d : Nat → Int) : Prop := (1 ≤ n ∧ n ≤ 8) ∧ Ri 1 200 n d

set_option maxRecDepth 100000 in
set_option maxHeartbeats 1000000 in
theorem spec_rises (lo hi : Int) (A : Option Addr) (n c : Nat) (d : Nat → Int) (hn : n ≤ 1048576) (w : World) (hA : Nums w w.heap.size A n d) : Calls Try.prog 90 #[.slice A n c, .int .i64 lo, .int .i64 hi] w (Tells (Ri lo hi n d) w) := by
  have HA := Lib.hid hA
  clear hA
  go_enter Try.func90, Try.ntmps90
  go_wp2_with fail
  go_loopw [7] (fun i wr => ∃ k : Nat, k ≤ n ∧ i = .int .i64 k ∧ Below w.heap.size w wr ∧ Hid (∀ j, j < k → inB (d j) lo hi = true) ∧ Hid (∀ j, j + 1 < k → d j < d (j + 1))) (fun i _ => n - (intOf i).toNat)
  case atStart => exact ⟨0, Nat.zero_le _, rfl, Below.refl _ _, Lib.hid fun j hj => by omega, Lib.hid fun j hj => by omega⟩
  case round =>
    obtain ⟨k, hk, rfl, hbel, hall, hord⟩ := hrel
    have HB := Lib.hid hbel
    by_cases hlt : k < n
    · obtain ⟨b, off, rfl, hb, hc⟩ := (HA.out.below hbel (Nat.le_refl _)) (by omega)
      have HC := Lib.hid hc
      have x0 := bey_cell (hc k hlt)
      have C := Lib.hid (fun w => in_any (d k) lo hi w)
      have HN := Lib.hid (ri_not (lo := lo) (hi := hi) (d := d) hlt)
      have HS := Lib.hid (fun h => step_all (p := fun j => inB (d j) lo hi) hall.out (k := k) h)
      have e0 : (0 : Int) ≤ (k : Int) := Int.natCast_nonneg _
      have e1 : (k : Int) < (n : Int) := by omega
      generalize inB (d k) lo hi = r at C HN HS
      clear hc hbel
      cases r
      · have HF := Lib.hid (HN.out rfl)
        go_wp2_with fail
        refine wp_region_below (by kernel_rfl) (by kernel_rfl) ?_
        repeat (go_big_quiet_step ((go_at_call 65; exact bey_same _ (C.out _))))
        refine wpQuiet_nil ?_
        rintro _ ⟨pq, rfl⟩
        have HQ := Lib.hid (HB.out.trans (pq.h.mono HB.out.size))
        generalize pq.to = wq at HQ ⊢
        go_wp2_with fail
        go_ret
        exact tells_no HF.out HQ.out
      · have HD := Lib.hid (HS.out rfl)
        by_cases hz : k = 0
        · subst hz
          simp only [Nat.add_zero] at x0
          go_wp2_with fail
          refine wp_region_below (by kernel_rfl) (by kernel_rfl) ?_
          repeat (go_big_quiet_step ((go_at_call 65; exact bey_same _ (C.out _))))
          refine wpQuiet_nil ?_
          rintro _ ⟨pq, rfl⟩
          have HQ := Lib.hid (HB.out.trans (pq.h.mono HB.out.size))
          generalize pq.to = wq at HQ ⊢
          go_wp2_with fail
          go_roundw
          case rel => exact ⟨1, by omega, by go_num, HQ.out, HD, Lib.hid fun j hj => by omega⟩
          case measure => simp [intOf]; omega
        · obtain ⟨p, rfl⟩ : ∃ p, k = p + 1 := ⟨k - 1, by omega⟩
          have y0 := bey_cell (HC.out p (by omega))
          have hgt : (0 : Int) < ((p + 1 : Nat) : Int) := by omega
          have e2 : ((p + 1 : Nat) : Int) - 1 = (p : Int) := by omega
          by_cases hq : d p < d (p + 1)
          · have HD2 := Lib.hid (ord_step hord.out hq)
            have hq' : ¬ d (p + 1) ≤ d p := by omega
            generalize d p = u at y0 hq hq'
            generalize d (p + 1) = v at x0 C hq hq'
            go_wp2_with fail
            refine wp_region_below (by kernel_rfl) (by kernel_rfl) ?_
            repeat (go_big_quiet_step ((go_at_call 65; exact bey_same _ (C.out _))))
            refine wpQuiet_nil ?_
            rintro _ ⟨pq, rfl⟩
            have HQ := Lib.hid (HB.out.trans (pq.h.mono HB.out.size))
            generalize pq.to = wq at HQ ⊢
            go_wp2_with fail
            go_roundw
            case rel => exact ⟨p + 1 + 1, by omega, by go_num, HQ.out, HD, HD2⟩
            case measure => simp [intOf]; omega
          · have HF := Lib.hid (ri_ord (lo := lo) (hi := hi) (d := d) hlt (by omega))
            have hq' : d (p + 1) ≤ d p := by omega
            generalize d p = u at y0 hq hq'
            generalize d (p + 1) = v at x0 C hq hq'
            go_wp2_with fail
            refine wp_region_below (by kernel_rfl) (by kernel_rfl) ?_
            repeat (go_big_quiet_step ((go_at_call 65; exact bey_same _ (C.out _))))
            refine wpQuiet_nil ?_
            rintro _ ⟨pq, rfl⟩
            have HQ := Lib.hid (HB.out.trans (pq.h.mono HB.out.size))
            generalize pq.to = wq at HQ ⊢
            go_wp2_with fail
            go_ret
            exact tells_no HF.out HQ.out
    · obtain rfl : k = n := by omega
      have HF : Hid (Ri lo hi k d) := Lib.hid ⟨hall.out, hord.out⟩
      go_wp2_with fail
      go_ret
      exact tells_yes HF.out HB.out

theorem spec_ok (A : Option Addr) (n c : Nat) (d : Nat → Int) (hn : n ≤ 1048576) (w : World) (hA : Nums w w.heap.size A n d) :
    Calls Try.prog 54 #[.slice A n c] w fun e w' => e = .returned (.bool (tv (LyP n d))) ∧ Below w.heap.size w w' := by
  have C1 := Lib.hid (in_any (n : Int) 1 8 w)
  have C2 := Lib.hid ((spec_rises 1 200 A n c d hn w hA).mono fun _ _ t => tells_tv t)
  have HN : Hid (inB (n : Int) 1 8 = false → tv (LyP n d) = false) := Lib.hid fun h => tv_no fun e => by
    have := e.1
    rw [in_yes (by omega) (by omega)] at h
    cases h
  have HY : Hid (inB (n : Int) 1 8 = true → tv (LyP n d) = tv (Ri 1 200 n d)) := Lib.hid fun h => by
    have h1 := in_of h
    by_cases q : Ri 1 200 n d
    · rw [tv_yes q, tv_yes ⟨by omega, q⟩]
    · rw [tv_no q, tv_no fun e => q e.2]
  generalize inB (n : Int) 1 8 = r1 at C1 HN HY
  generalize tv (Ri 1 200 n d) = r2 at C2 HY
  generalize tv (LyP n d) = r3 at HN HY ⊢
  cases r1
  · have HF := Lib.hid (HN.out rfl)
    go_enter Try.func54, Try.ntmps54
    go_wp2_with fail
    refine C1.out.mono ?_
    rintro e w' ⟨rfl, rfl⟩
    go_wp2_with fail
    go_ret
    exact ⟨Ba.ret_bool HF.out.symm, Below.refl _ _⟩
  · have HF := Lib.hid (HY.out rfl)
    go_enter Try.func54, Try.ntmps54
    go_wp2_with fail
    refine C1.out.mono ?_
    rintro e w' ⟨rfl, rfl⟩
    go_wp2_with fail
    refine C2.out.mono ?_
    rintro e w1 ⟨rfl, b1⟩
    go_wp2_with fail
    go_ret
    exact ⟨Ba.ret_bool HF.out.symm, b1⟩
theorem spec_valid (A : Option Addr) (n c : Nat) (d : Nat → Int) (hn : n ≤ 1048576) (w : World) (hA : Nums w w.heap.size A n d) :
    Calls Try.prog 15 #[.slice A n c] w fun e w' => e = .returned (.bool (tv (LyP n d))) ∧ Below w.heap.size w w' := by
  have C := Lib.hid (spec_ok A n c d hn w hA)
  generalize tv (LyP n d) = r at C ⊢
  go_enter Try.func15, Try.ntmps15
  go_wp2_with fail
  refine C.out.mono ?_
  rintro e w1 ⟨rfl, b1⟩
  go_wp2_with fail
  go_ret
  exact ⟨rfl, b1⟩
set_option maxRecDepth 100000 in
set_option maxHeartbeats 1000000 in
theorem impl_valid (A : Option Addr) (n c : Nat) (d : Nat → Int) (hn : n ≤ 1048576) (w : World) (hA : Nums w w.heap.size A n d) :
    Calls Try.prog 17 #[.slice A n c] w fun e w' => e = .returned (.bool (tv (LyP n d))) ∧ Below w.heap.size w w' := by
  have HA := Lib.hid hA
  have C := Lib.hid (fun w h => are_any 1 200 A n c d hn w h)
  have H0 : Hid (n < 1 ∨ 8 < n → tv (LyP n d) = false) := Lib.hid fun h => tv_no fun e => by have := e.1; omega
  have HN : Hid (∀ k, k + 1 < n → d (k + 1) ≤ d k → tv (LyP n d) = false) := Lib.hid fun k hk h => tv_no fun e => ri_ord hk h e.2
  have HY : Hid (1 ≤ n → n ≤ 8 → (∀ j, j + 1 < n → d j < d (j + 1)) → tv (LyP n d) = tv (Al 1 200 n d)) := Lib.hid fun h1 h2 h3 => by
    by_cases q : Al 1 200 n d
    · rw [tv_yes q, tv_yes ⟨⟨h1, h2⟩, q, h3⟩]
    · rw [tv_no q, tv_no fun e => q e.2.1]
  generalize tv (Al 1 200 n d) = r2 at C HY
  generalize tv (LyP n d) = r at H0 HN HY ⊢
  clear hA
  by_cases h1 : n < 1
  · have HF := Lib.hid (H0.out (Or.inl h1))
    have h1' : (n : Int) < 1 := by omega
    go_enter Try.func17, Try.ntmps17
    go_wp2_with fail
    go_ret
    exact ⟨Ba.ret_bool HF.out.symm, Below.refl _ _⟩
  by_cases h2 : 8 < n
  · have HF := Lib.hid (H0.out (Or.inr h2))
    have h1' : ¬ (n : Int) < 1 := by omega
    have h2' : (8 : Int) < (n : Int) := by omega
    go_enter Try.func17, Try.ntmps17
    go_wp2_with fail
    go_ret
    exact ⟨Ba.ret_bool HF.out.symm, Below.refl _ _⟩
  have h1' : ¬ (n : Int) < 1 := by omega
  have h2' : ¬ (8 : Int) < (n : Int) := by omega
  have HY1 := Lib.hid (HY.out (by omega) (by omega))
  clear HY H0
  go_enter Try.func17, Try.ntmps17
  go_wp2_with fail
  go_loopw [3] (fun i wr => ∃ k : Nat, k + 1 ≤ n ∧ i = .int .i64 ((k + 1 : Nat) : Int) ∧ Below w.heap.size w wr ∧ Hid (∀ j, j + 1 < k + 1 → d j < d (j + 1))) (fun i _ => n - (intOf i).toNat)
  case atStart => exact ⟨0, by omega, rfl, Below.refl _ _, Lib.hid fun j hj => by omega⟩
  case round =>
    obtain ⟨k, hk, rfl, hbel, hord⟩ := hrel
    have HB := Lib.hid hbel
    by_cases hlt : k + 1 < n
    · obtain ⟨b, off, rfl, hb, hc⟩ := (HA.out.below hbel (Nat.le_refl _)) (by omega)
      have x0 := hc (k + 1) hlt
      have y0 := hc k (by omega)
      have e0 : (0 : Int) ≤ ((k + 1 : Nat) : Int) := Int.natCast_nonneg _
      have e1 : ((k + 1 : Nat) : Int) < (n : Int) := by omega
      have e2 : ((k + 1 : Nat) : Int) - 1 = (k : Int) := by omega
      have e3 : (0 : Int) ≤ (k : Int) := by omega
      have e4 : (k : Int) < (n : Int) := by omega
      have HNk := Lib.hid (HN.out k hlt)
      clear hc hbel
      by_cases hq : d (k + 1) ≤ d k
      · have HF := Lib.hid (HNk.out hq)
        generalize d k = u at y0 hq
        generalize d (k + 1) = v at x0 hq
        go_wp2_with fail
        all_goals (try go_quiet (fail))
        all_goals (try go_wp2_with fail)
        go_ret
        exact ⟨Ba.ret_bool HF.out.symm, by first | exact HB.out | exact ⟨HB.out.os, HB.out.tape, HB.out.output, HB.out.size, HB.out.block⟩⟩
      · have HD := Lib.hid (ord_step hord.out (by omega))
        generalize d k = u at y0 hq
        generalize d (k + 1) = v at x0 hq
        go_wp2_with fail
        all_goals (try go_quiet (fail))
        all_goals (try go_wp2_with fail)
        go_roundw
        case rel => exact ⟨k + 1, by omega, by go_num, by first | exact HB.out | exact ⟨HB.out.os, HB.out.tape, HB.out.output, HB.out.size, HB.out.block⟩, HD⟩
        case measure => simp [intOf]; omega
    · have HF := Lib.hid (HY1.out (fun j hj => hord.out j (by omega)))
      have e1 : ¬ ((k + 1 : Nat) : Int) < (n : Int) := by omega
      go_wp2_with fail
      refine (C.out _ ((HA.out.below hbel (Nat.le_refl _)).more hbel.size)).mono ?_
      rintro e w' ⟨rfl, rfl⟩
      go_wp2_with fail
      go_ret
      exact ⟨Ba.ret_bool HF.out.symm, HB.out⟩
/-- Layers have what the builds ask. -/
theorem lay_of {n : Nat} {d : Nat → Int} (h : LyP n d) : ∀ i, i < n → 1 ≤ d i ∧ d i ≤ 200 := fun i hi => in_of (h.2.1 i hi)
theorem lay_lt {n : Nat} {d : Nat → Int} (h : LyP n d) : ∀ k i, i + k + 1 < n → d i < d (i + k + 1)
  | 0, i, hi => h.2.2 i (by omega)
  | k + 1, i, hi => Int.lt_trans (lay_lt h k i (by omega)) (h.2.2 (i + k + 1) (by omega))
end Go.Proofs.Ytaoknbhpjnileaa.Ly
