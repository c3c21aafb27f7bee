/- Numbers that rise within bounds: the spec's. -/
import Derived.Test.YtpmmfalpcooenaaDoorAwLib
import Derived.Test.YtpmmfalpcooenaaDoorIcLib
import Derived.RegionTactic
namespace Go.Proofs.YtpmmfalpcooenaaDoor.Ris
set_option linter.unusedVariables false
open Go.RowKit Ft Is Ge Qb Ly

/-- .. that rise. -/
def Ri (lo hi : Int) (n : Nat) (d : Nat → Int) : Prop := Al lo hi n d ∧ ∀ i, i + 1 < n → d i < d (i + 1)
theorem ri_not {lo hi : Int} {n : Nat} {d : Nat → Int} {k : Nat} (hk : k < n) (h : inB (d k) lo hi = false) : ¬ Ri lo hi n d := fun e => by rw [e.1 k hk] at h; cases h
theorem ri_ord {lo hi : Int} {n : Nat} {d : Nat → Int} {k : Nat} (hk : k + 1 < n) (h : d (k + 1) ≤ d k) : ¬ Ri lo hi n d := fun e => by have := e.2 k hk; omega
theorem ord_step {d : Nat → Int} {k : Nat} (h : ∀ j, j + 1 < k + 1 → d j < d (j + 1)) (hk : d k < d (k + 1)) : ∀ j, j + 1 < k + 1 + 1 → d j < d (j + 1) := fun j hj => by
  by_cases e : j = k
  · rw [e]; exact hk
  · exact h j (by omega)
set_option maxRecDepth 100000 in
set_option maxHeartbeats 1000000 in
theorem spec_rises (lo hi : Int) (A : Option Addr) (n c : Nat) (d : Nat → Int) (hn : n ≤ 1048576) (w : World) (hA : Nums w w.heap.size A n d) : Calls Tryd.prog 61 #[.slice A n c, .int .i64 lo, .int .i64 hi] w (Tells (Ri lo hi n d) w) := by
  have HA := Lib.hid hA
  clear hA
  go_enter Tryd.func61, Tryd.ntmps61
  go_wp2_with fail
  go_loopw [7] (fun i wr => ∃ k : Nat, k ≤ n ∧ i = .int .i64 k ∧ Below w.heap.size w wr ∧ Hid (∀ j, j < k → inB (d j) lo hi = true) ∧ Hid (∀ j, j + 1 < k → d j < d (j + 1))) (fun i _ => n - (intOf i).toNat)
  case atStart => exact ⟨0, Nat.zero_le _, rfl, Below.refl _ _, Lib.hid fun j hj => by omega, Lib.hid fun j hj => by omega⟩
  case round =>
    obtain ⟨k, hk, rfl, hbel, hall, hord⟩ := hrel
    have HB := Lib.hid hbel
    by_cases hlt : k < n
    · obtain ⟨b, off, rfl, hb, hc⟩ := (HA.out.below hbel (Nat.le_refl _)) (by omega)
      have HC := Lib.hid hc
      have x0 := bey_cell (hc k hlt)
      have C := Lib.hid (fun w => in_any (d k) lo hi w)
      have HN := Lib.hid (ri_not (lo := lo) (hi := hi) (d := d) hlt)
      have HS := Lib.hid (fun h => step_all (p := fun j => inB (d j) lo hi) hall.out (k := k) h)
      have e0 : (0 : Int) ≤ (k : Int) := Int.natCast_nonneg _
      have e1 : (k : Int) < (n : Int) := by omega
      generalize inB (d k) lo hi = r at C HN HS
      clear hc hbel
      cases r
      · have HF := Lib.hid (HN.out rfl)
        go_wp2_with fail
        refine wp_region_below (by kernel_rfl) (by kernel_rfl) ?_
        repeat (go_big_quiet_step ((go_at_call 52; exact bey_same _ (C.out _))))
        refine wpQuiet_nil ?_
        rintro _ ⟨pq, rfl⟩
        have HQ := Lib.hid (HB.out.trans (pq.h.mono HB.out.size))
        generalize pq.to = wq at HQ ⊢
        go_wp2_with fail
        go_ret
        exact tells_no HF.out HQ.out
      · have HD := Lib.hid (HS.out rfl)
        by_cases hz : k = 0
        · subst hz
          simp only [Nat.add_zero] at x0
          go_wp2_with fail
          refine wp_region_below (by kernel_rfl) (by kernel_rfl) ?_
          repeat (go_big_quiet_step ((go_at_call 52; exact bey_same _ (C.out _))))
          refine wpQuiet_nil ?_
          rintro _ ⟨pq, rfl⟩
          have HQ := Lib.hid (HB.out.trans (pq.h.mono HB.out.size))
          generalize pq.to = wq at HQ ⊢
          go_wp2_with fail
          go_roundw
          case rel => exact ⟨1, by omega, by go_num, HQ.out, HD, Lib.hid fun j hj => by omega⟩
          case measure => simp [intOf]; omega
        · obtain ⟨p, rfl⟩ : ∃ p, k = p + 1 := ⟨k - 1, by omega⟩
          have y0 := bey_cell (HC.out p (by omega))
          have hgt : (0 : Int) < ((p + 1 : Nat) : Int) := by omega
          have e2 : ((p + 1 : Nat) : Int) - 1 = (p : Int) := by omega
          by_cases hq : d p < d (p + 1)
          · have HD2 := Lib.hid (ord_step hord.out hq)
            have hq' : ¬ d (p + 1) ≤ d p := by omega
            generalize d p = u at y0 hq hq'
            generalize d (p + 1) = v at x0 C hq hq'
            go_wp2_with fail
            refine wp_region_below (by kernel_rfl) (by kernel_rfl) ?_
            repeat (go_big_quiet_step ((go_at_call 52; exact bey_same _ (C.out _))))
            refine wpQuiet_nil ?_
            rintro _ ⟨pq, rfl⟩
            have HQ := Lib.hid (HB.out.trans (pq.h.mono HB.out.size))
            generalize pq.to = wq at HQ ⊢
            go_wp2_with fail
            go_roundw
            case rel => exact ⟨p + 1 + 1, by omega, by go_num, HQ.out, HD, HD2⟩
            case measure => simp [intOf]; omega
          · have HF := Lib.hid (ri_ord (lo := lo) (hi := hi) (d := d) hlt (by omega))
            have hq' : d (p + 1) ≤ d p := by omega
            generalize d p = u at y0 hq hq'
            generalize d (p + 1) = v at x0 C hq hq'
            go_wp2_with fail
            refine wp_region_below (by kernel_rfl) (by kernel_rfl) ?_
            repeat (go_big_quiet_step ((go_at_call 52; exact bey_same _ (C.out _))))
            refine wpQuiet_nil ?_
            rintro _ ⟨pq, rfl⟩
            have HQ := Lib.hid (HB.out.trans (pq.h.mono HB.out.size))
            generalize pq.to = wq at HQ ⊢
            go_wp2_with fail
            go_ret
            exact tells_no HF.out HQ.out
    · obtain rfl : k = n := by omega
      have HF : Hid (Ri lo hi k d) := Lib.hid ⟨hall.out, hord.out⟩
      go_wp2_with fail
      go_ret
      exact tells_yes HF.out HB.out

end Go.Proofs.YtpmmfalpcooenaaDoor.Ris
