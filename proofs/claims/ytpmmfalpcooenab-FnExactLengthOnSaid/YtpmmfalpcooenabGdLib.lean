/- The code of days and feet: the spec's and the program's. -/
import Derived.Test.YtpmmfalpcooenabGrLib
import Derived.Test.YtpmmfalpcooenabIcLib
namespace Go.Proofs.Ytpmmfalpcooenab.Gd
open Go.RowKit Ft Fs Ld Is Fc Cl Gm Gb Gr Qb

/-- Days that rise. -/
def Ri (n : Nat) (d : Nat → Int) : Prop := (∀ i, i < n → inB (d i) 0 10000 = true) ∧ ∀ i, i + 1 < n → d i < d (i + 1)
theorem ri_not {n : Nat} {d : Nat → Int} {k : Nat} (hk : k < n) (h : inB (d k) 0 10000 = false) : ¬ Ri n d := fun e => by rw [e.1 k hk] at h; cases h
theorem ri_ord {n : Nat} {d : Nat → Int} {k : Nat} (hk : k + 1 < n) (h : d (k + 1) ≤ d k) : ¬ Ri n d := fun e => by have := e.2 k hk; omega
theorem ord_step {d : Nat → Int} {k : Nat} (h : ∀ j, j + 1 < k + 1 → d j < d (j + 1)) (hk : d k < d (k + 1)) : ∀ j, j + 1 < k + 1 + 1 → d j < d (j + 1) := fun j hj => by
  by_cases e : j = k
  · rw [e]; exact hk
  · exact h j (by omega)

set_option maxRecDepth 100000 in
set_option maxHeartbeats 1000000 in
theorem spec_rises (A : Option Addr) (n c : Nat) (d : Nat → Int) (hn : n ≤ 1048576) (w : World) (hA : Nums w w.heap.size A n d) : Calls Try.prog 109 #[.slice A n c, .int .i64 0, .int .i64 10000] w (Tells (Ri n d) w) := by
  have HA := Lib.hid hA
  clear hA
  go_enter Try.func109, Try.ntmps109
  go_wp2_with fail
  go_loopw [7] (fun i wr => ∃ k : Nat, k ≤ n ∧ i = .int .i64 k ∧ Below w.heap.size w wr ∧ Hid (∀ j, j < k → inB (d j) 0 10000 = true) ∧ Hid (∀ j, j + 1 < k → d j < d (j + 1))) (fun i _ => n - (intOf i).toNat)
  case atStart => exact ⟨0, Nat.zero_le _, rfl, Below.refl _ _, Lib.hid fun j hj => by omega, Lib.hid fun j hj => by omega⟩
  case round =>
    obtain ⟨k, hk, rfl, hbel, hall, hord⟩ := hrel
    have HB := Lib.hid hbel
    by_cases hlt : k < n
    · obtain ⟨b, off, rfl, hb, hc⟩ := (HA.out.below hbel (Nat.le_refl _)) (by omega)
      have HC := Lib.hid hc
      have x0 := bey_cell (hc k hlt)
      have C := Lib.hid (fun w => in_any (d k) 0 10000 w)
      have HN := Lib.hid (ri_not (d := d) hlt)
      have HS := Lib.hid (fun h => step_all (p := fun j => inB (d j) 0 10000) hall.out (k := k) h)
      have e0 : (0 : Int) ≤ (k : Int) := Int.natCast_nonneg _
      have e1 : (k : Int) < (n : Int) := by omega
      generalize inB (d k) 0 10000 = r at C HN HS
      clear hc hbel
      cases r
      · have HF := Lib.hid (HN.out rfl)
        go_wp2_with fail
        refine wp_region_below (by kernel_rfl) (by kernel_rfl) ?_
        repeat (go_big_quiet_step ((go_at_call 75; exact bey_same _ (C.out _))))
        refine wpQuiet_nil ?_
        rintro _ ⟨pq, rfl⟩
        have HQ := Lib.hid (HB.out.trans (pq.h.mono HB.out.size))
        generalize pq.to = wq at HQ ⊢
        go_wp2_with fail
        go_ret
        exact tells_no HF.out HQ.out
      · have HD := Lib.hid (HS.out rfl)
        by_cases hz : k = 0
        · subst hz
          simp only [Nat.add_zero] at x0
          go_wp2_with fail
          refine wp_region_below (by kernel_rfl) (by kernel_rfl) ?_
          repeat (go_big_quiet_step ((go_at_call 75; exact bey_same _ (C.out _))))
          refine wpQuiet_nil ?_
          rintro _ ⟨pq, rfl⟩
          have HQ := Lib.hid (HB.out.trans (pq.h.mono HB.out.size))
          generalize pq.to = wq at HQ ⊢
          go_wp2_with fail
          go_roundw
          case rel => exact ⟨1, by omega, by go_num, HQ.out, HD, Lib.hid fun j hj => by omega⟩
          case measure => simp [intOf]; omega
        · obtain ⟨p, rfl⟩ : ∃ p, k = p + 1 := ⟨k - 1, by omega⟩
          have y0 := bey_cell (HC.out p (by omega))
          have hgt : (0 : Int) < ((p + 1 : Nat) : Int) := by omega
          have e2 : ((p + 1 : Nat) : Int) - 1 = (p : Int) := by omega
          by_cases hq : d p < d (p + 1)
          · have HD2 := Lib.hid (ord_step hord.out hq)
            have hq' : ¬ d (p + 1) ≤ d p := by omega
            generalize d p = u at y0 hq hq'
            generalize d (p + 1) = v at x0 C hq hq'
            go_wp2_with fail
            refine wp_region_below (by kernel_rfl) (by kernel_rfl) ?_
            repeat (go_big_quiet_step ((go_at_call 75; exact bey_same _ (C.out _))))
            refine wpQuiet_nil ?_
            rintro _ ⟨pq, rfl⟩
            have HQ := Lib.hid (HB.out.trans (pq.h.mono HB.out.size))
            generalize pq.to = wq at HQ ⊢
            go_wp2_with fail
            go_roundw
            case rel => exact ⟨p + 1 + 1, by omega, by go_num, HQ.out, HD, HD2⟩
            case measure => simp [intOf]; omega
          · have HF := Lib.hid (ri_ord (d := d) hlt (by omega))
            have hq' : d (p + 1) ≤ d p := by omega
            generalize d p = u at y0 hq hq'
            generalize d (p + 1) = v at x0 C hq hq'
            go_wp2_with fail
            refine wp_region_below (by kernel_rfl) (by kernel_rfl) ?_
            repeat (go_big_quiet_step ((go_at_call 75; exact bey_same _ (C.out _))))
            refine wpQuiet_nil ?_
            rintro _ ⟨pq, rfl⟩
            have HQ := Lib.hid (HB.out.trans (pq.h.mono HB.out.size))
            generalize pq.to = wq at HQ ⊢
            go_wp2_with fail
            go_ret
            exact tells_no HF.out HQ.out
    · obtain rfl : k = n := by omega
      have HF : Hid (Ri k d) := Lib.hid ⟨hall.out, hord.out⟩
      go_wp2_with fail
      go_ret
      exact tells_yes HF.out HB.out

set_option maxRecDepth 100000 in
set_option maxHeartbeats 1000000 in
theorem impl_rises (A : Option Addr) (n c m : Nat) (d : Nat → Int) (hn : n ≤ 1048576) (hm : m ≤ 1048576) (w : World) (hA : Nums w w.heap.size A n d) : Calls Try.prog 114 #[.slice A n c, .int .i64 m] w (Tells (n = m ∧ Ri n d) w) := by
  by_cases hne : n = m
  case neg =>
    have HF : Hid (¬ (n = m ∧ Ri n d)) := Lib.hid fun e => hne e.1
    have h1 : ((n : Int) == m) = false := by simp; omega
    clear hA
    go_enter Try.func114, Try.ntmps114
    go_wp2_with fail
    go_ret
    exact tells_no HF.out (Below.refl _ _)
  case pos =>
    subst hne
    have C1 := Lib.hid (Ly.are_any 0 10000 A n c d hn w hA)
    have C2 := Lib.hid (Ic.inc_any A n c d hn w hA)
    have H1 : Hid (Ge.tv (Ly.Al 0 10000 n d) = false → ¬ (n = n ∧ Ri n d)) := Lib.hid fun h e => by rw [Ge.tv_yes (show Ly.Al 0 10000 n d from e.2.1)] at h; cases h
    have H2 : Hid (Ge.tv (Ic.Up n d) = false → ¬ (n = n ∧ Ri n d)) := Lib.hid fun h e => by rw [Ge.tv_yes (show Ic.Up n d from e.2.2)] at h; cases h
    have H3 : Hid (Ge.tv (Ly.Al 0 10000 n d) = true → Ge.tv (Ic.Up n d) = true → n = n ∧ Ri n d) := Lib.hid fun h1 h2 => ⟨rfl, Ge.tv_iff.1 h1, Ge.tv_iff.1 h2⟩
    generalize Ge.tv (Ly.Al 0 10000 n d) = r1 at C1 H1 H3
    generalize Ge.tv (Ic.Up n d) = r2 at C2 H2 H3
    generalize (n = n ∧ Ri n d) = P at H1 H2 H3 ⊢
    clear hA
    go_enter Try.func114, Try.ntmps114
    go_wp2_with fail
    refine C1.out.mono ?_
    rintro e w' ⟨rfl, rfl⟩
    cases r1
    · have HF := Lib.hid (H1.out rfl)
      go_wp2_with fail
      go_ret
      exact tells_no HF.out (Below.refl _ _)
    go_wp2_with fail
    refine C2.out.mono ?_
    rintro e w1 ⟨rfl, b1⟩
    cases r2
    · have HF := Lib.hid (H2.out rfl)
      go_wp2_with fail
      go_ret
      exact tells_no HF.out b1
    · have HF := Lib.hid (H3.out (by first | rfl | trivial) (by first | rfl | trivial))
      go_wp2_with fail
      go_ret
      exact tells_yes HF.out b1
open Classical in
/-- The code of days, feet and a day. -/
noncomputable def codeD (n : Nat) (d : Nat → Int) (m : Nat) (F : Nat → Nat → Int) (day : Int) : Int := if ¬ Okay m F then 1 else if ¬ ((n = m ∧ Ri n d) ∧ inB day 0 20000 = true) then 2 else if m < 2 then 3 else 0
theorem cd_1 {n m : Nat} {d : Nat → Int} {F : Nat → Nat → Int} {day : Int} (h : ¬ Okay m F) : codeD n d m F day = 1 := by unfold codeD; rw [if_pos h]
theorem cd_2 {n m : Nat} {d : Nat → Int} {F : Nat → Nat → Int} {day : Int} (h : Okay m F) (h2 : ¬ ((n = m ∧ Ri n d) ∧ inB day 0 20000 = true)) : codeD n d m F day = 2 := by unfold codeD; rw [if_neg (fun e => e h), if_pos h2]
theorem cd_3 {n m : Nat} {d : Nat → Int} {F : Nat → Nat → Int} {day : Int} (h : Okay m F) (h2 : (n = m ∧ Ri n d) ∧ inB day 0 20000 = true) (h3 : m < 2) : codeD n d m F day = 3 := by unfold codeD; rw [if_neg (fun e => e h), if_neg (fun e => e h2), if_pos h3]
theorem cd_0 {n m : Nat} {d : Nat → Int} {F : Nat → Nat → Int} {day : Int} (h : Okay m F) (h2 : (n = m ∧ Ri n d) ∧ inB day 0 20000 = true) (h3 : ¬ m < 2) : codeD n d m F day = 0 := by unfold codeD; rw [if_neg (fun e => e h), if_neg (fun e => e h2), if_neg h3]
theorem ret_int {a b : Int} (h : a = b) : Ending.returned (.int .i64 a) = .returned (.int .i64 b) := by rw [h]
theorem tv_of {P : Prop} : ∃ r : Bool, r = true ↔ P := by
  by_cases h : P
  · exact ⟨true, by simp [h]⟩
  · exact ⟨false, by simp [h]⟩

set_option maxHeartbeats 1000000 in
theorem spec_days (A B : Option Addr) (n c m c' : Nat) (d : Nat → Int) (F : Nat → Nat → Int) (day : Int) (hn : n ≤ 1048576) (hm : m ≤ 1048576) (w : World) (hA : Nums w w.heap.size A n d) (hB : Ints w w.heap.size 4 B m F) :
    Calls Try.prog 57 #[.slice A n c, .slice B m c', .int .i64 day] w fun e w' => e = .returned (.int .i64 (codeD n d m F day)) ∧ Below w.heap.size w w' := by
  have HA := Lib.hid hA
  have C0 := Lib.hid (spec_ok B m c' F hm w hB)
  by_cases ho : Okay m F
  case neg =>
    have C := Lib.hid (C0.out.mono fun _ _ t => tells_false ho t)
    have HR := Lib.hid (cd_1 (n := n) (d := d) (day := day) ho)
    clear hA hB C0 ho
    go_enter Try.func57, Try.ntmps57
    go_wp2_with fail
    refine C.out.mono ?_
    rintro e w1 ⟨rfl, b1⟩
    have HB1 := Lib.hid b1
    clear b1
    go_wp2_with fail
    go_ret
    exact ⟨ret_int HR.out.symm, HB1.out⟩
  case pos =>
    have C := Lib.hid (C0.out.mono fun _ _ t => tells_true ho t)
    have CI := Lib.hid (fun w => in_any day 0 20000 w)
    by_cases hl : n = m
    case neg =>
      have h1 : ((n : Int) != m) = true := by simp; omega
      have HR := Lib.hid (cd_2 (n := n) (d := d) (day := day) ho (fun e => hl e.1.1))
      clear hA hB C0 ho hl
      go_enter Try.func57, Try.ntmps57
      go_wp2_with fail
      refine C.out.mono ?_
      rintro e w1 ⟨rfl, b1⟩
      have HB1 := Lib.hid b1
      clear b1
      go_wp2_with fail
      go_ret
      exact ⟨ret_int HR.out.symm, HB1.out⟩
    case pos =>
      subst hl
      by_cases hr : Ri n d
      case neg =>
        have HR := Lib.hid (cd_2 (n := n) (d := d) (day := day) ho (fun e => hr e.1.2))
        have CR := Lib.hid (fun w h => (spec_rises A n c d hn w h).mono fun _ _ t => tells_false hr t)
        clear hA hB C0 ho hr
        go_enter Try.func57, Try.ntmps57
        go_wp2_with fail
        refine C.out.mono ?_
        rintro e w1 ⟨rfl, b1⟩
        have HB1 := Lib.hid b1
        clear b1
        go_wp2_with fail
        refine (CR.out _ ((HA.out.below HB1.out (Nat.le_refl _)).more HB1.out.size)).mono ?_
        rintro e w2 ⟨rfl, b2⟩
        have HB2 := Lib.hid (below_then HB1.out b2)
        clear b2
        go_wp2_with fail
        go_ret
        exact ⟨ret_int HR.out.symm, HB2.out⟩
      case pos =>
        have CR := Lib.hid (fun w h => (spec_rises A n c d hn w h).mono fun _ _ t => tells_true hr t)
        cases hi : inB day 0 20000
        · have HR := Lib.hid (cd_2 (n := n) (d := d) (day := day) ho (fun e => by rw [hi] at e; exact absurd e.2 (by simp)))
          rw [hi] at CI
          clear hA hB C0 ho hr hi
          go_enter Try.func57, Try.ntmps57
          go_wp2_with fail
          refine C.out.mono ?_
          rintro e w1 ⟨rfl, b1⟩
          have HB1 := Lib.hid b1
          clear b1
          go_wp2_with fail
          refine (CR.out _ ((HA.out.below HB1.out (Nat.le_refl _)).more HB1.out.size)).mono ?_
          rintro e w2 ⟨rfl, b2⟩
          have HB2 := Lib.hid (below_then HB1.out b2)
          clear b2
          go_wp2_with fail
          refine (CI.out _).mono ?_
          rintro e w' ⟨rfl, rfl⟩
          go_wp2_with fail
          go_ret
          exact ⟨ret_int HR.out.symm, HB2.out⟩
        · rw [hi] at CI
          by_cases h2 : n < 2
          · have HR := Lib.hid (cd_3 (n := n) (d := d) (day := day) ho ⟨⟨rfl, hr⟩, hi⟩ h2)
            have h2' : (n : Int) < 2 := by omega
            clear hA hB C0 ho hr hi
            go_enter Try.func57, Try.ntmps57
            go_wp2_with fail
            refine C.out.mono ?_
            rintro e w1 ⟨rfl, b1⟩
            have HB1 := Lib.hid b1
            clear b1
            go_wp2_with fail
            refine (CR.out _ ((HA.out.below HB1.out (Nat.le_refl _)).more HB1.out.size)).mono ?_
            rintro e w2 ⟨rfl, b2⟩
            have HB2 := Lib.hid (below_then HB1.out b2)
            clear b2
            go_wp2_with fail
            refine (CI.out _).mono ?_
            rintro e w' ⟨rfl, rfl⟩
            go_wp2_with fail
            go_ret
            exact ⟨ret_int HR.out.symm, HB2.out⟩
          · have HR := Lib.hid (cd_0 (n := n) (d := d) (day := day) ho ⟨⟨rfl, hr⟩, hi⟩ h2)
            have h2' : ¬ (n : Int) < 2 := by omega
            clear hA hB C0 ho hr hi
            go_enter Try.func57, Try.ntmps57
            go_wp2_with fail
            refine C.out.mono ?_
            rintro e w1 ⟨rfl, b1⟩
            have HB1 := Lib.hid b1
            clear b1
            go_wp2_with fail
            refine (CR.out _ ((HA.out.below HB1.out (Nat.le_refl _)).more HB1.out.size)).mono ?_
            rintro e w2 ⟨rfl, b2⟩
            have HB2 := Lib.hid (below_then HB1.out b2)
            clear b2
            go_wp2_with fail
            refine (CI.out _).mono ?_
            rintro e w' ⟨rfl, rfl⟩
            go_wp2_with fail
            go_ret
            exact ⟨ret_int HR.out.symm, HB2.out⟩

set_option maxHeartbeats 1000000 in
theorem impl_days (A B : Option Addr) (n c m c' : Nat) (d : Nat → Int) (F : Nat → Nat → Int) (day : Int) (hn : n ≤ 1048576) (hm : m ≤ 1048576) (w : World) (hA : Nums w w.heap.size A n d) (hB : Ints w w.heap.size 4 B m F) :
    Calls Try.prog 61 #[.slice A n c, .slice B m c', .int .i64 day] w fun e w' => e = .returned (.int .i64 (codeD n d m F day)) ∧ Below w.heap.size w w' := by
  have HA := Lib.hid hA
  have C0 := Lib.hid (impl_ok B m c' F hm w hB)
  by_cases ho : Okay m F
  case neg =>
    have C := Lib.hid (C0.out.mono fun _ _ t => tells_false ho t)
    have HR := Lib.hid (cd_1 (n := n) (d := d) (day := day) ho)
    clear hA hB C0 ho
    go_enter Try.func61, Try.ntmps61
    go_wp2_with fail
    refine C.out.mono ?_
    rintro e w1 ⟨rfl, b1⟩
    have HB1 := Lib.hid b1
    clear b1
    go_wp2_with fail
    go_ret
    exact ⟨ret_int HR.out.symm, HB1.out⟩
  case pos =>
    have C := Lib.hid (C0.out.mono fun _ _ t => tells_true ho t)
    by_cases hr : n = m ∧ Ri n d
    case neg =>
      have HR := Lib.hid (cd_2 (n := n) (d := d) (day := day) ho (fun e => hr e.1))
      have CR := Lib.hid (fun w h => (impl_rises A n c m d hn hm w h).mono fun _ _ t => tells_false hr t)
      clear hA hB C0 ho hr
      go_enter Try.func61, Try.ntmps61
      go_wp2_with fail
      refine C.out.mono ?_
      rintro e w1 ⟨rfl, b1⟩
      have HB1 := Lib.hid b1
      clear b1
      go_wp2_with fail
      refine (CR.out _ ((HA.out.below HB1.out (Nat.le_refl _)).more HB1.out.size)).mono ?_
      rintro e w2 ⟨rfl, b2⟩
      have HB2 := Lib.hid (below_then HB1.out b2)
      clear b2
      go_wp2_with fail
      go_ret
      exact ⟨ret_int HR.out.symm, HB2.out⟩
    case pos =>
      have CR := Lib.hid (fun w h => (impl_rises A n c m d hn hm w h).mono fun _ _ t => tells_true hr t)
      by_cases q1 : day < 0
      · have HR := Lib.hid (cd_2 (n := n) (d := d) (day := day) ho (fun e => by have := e.2; rw [in_low q1] at this; cases this))
        clear hA hB C0 ho hr
        go_enter Try.func61, Try.ntmps61
        go_wp2_with fail
        refine C.out.mono ?_
        rintro e w1 ⟨rfl, b1⟩
        have HB1 := Lib.hid b1
        clear b1
        go_wp2_with fail
        refine (CR.out _ ((HA.out.below HB1.out (Nat.le_refl _)).more HB1.out.size)).mono ?_
        rintro e w2 ⟨rfl, b2⟩
        have HB2 := Lib.hid (below_then HB1.out b2)
        clear b2
        go_wp2_with fail
        go_ret
        exact ⟨ret_int HR.out.symm, HB2.out⟩
      · by_cases q2 : 20000 < day
        · have HR := Lib.hid (cd_2 (n := n) (d := d) (day := day) ho (fun e => by have := e.2; rw [in_high q2] at this; cases this))
          have q1' : 0 ≤ day := by omega
          clear hA hB C0 ho hr q1
          go_enter Try.func61, Try.ntmps61
          go_wp2_with fail
          refine C.out.mono ?_
          rintro e w1 ⟨rfl, b1⟩
          have HB1 := Lib.hid b1
          clear b1
          go_wp2_with fail
          refine (CR.out _ ((HA.out.below HB1.out (Nat.le_refl _)).more HB1.out.size)).mono ?_
          rintro e w2 ⟨rfl, b2⟩
          have HB2 := Lib.hid (below_then HB1.out b2)
          clear b2
          go_wp2_with fail
          go_ret
          exact ⟨ret_int HR.out.symm, HB2.out⟩
        · have q1' : 0 ≤ day := by omega
          have q2' : day ≤ 20000 := by omega
          have hi := in_yes q1' q2'
          by_cases h2 : m < 2
          · have HR := Lib.hid (cd_3 (n := n) (d := d) (day := day) ho ⟨hr, hi⟩ h2)
            have h2' : (m : Int) < 2 := by omega
            clear hA hB C0 ho hr hi q1 q2
            go_enter Try.func61, Try.ntmps61
            go_wp2_with fail
            refine C.out.mono ?_
            rintro e w1 ⟨rfl, b1⟩
            have HB1 := Lib.hid b1
            clear b1
            go_wp2_with fail
            refine (CR.out _ ((HA.out.below HB1.out (Nat.le_refl _)).more HB1.out.size)).mono ?_
            rintro e w2 ⟨rfl, b2⟩
            have HB2 := Lib.hid (below_then HB1.out b2)
            clear b2
            go_wp2_with fail
            go_ret
            exact ⟨ret_int HR.out.symm, HB2.out⟩
          · have HR := Lib.hid (cd_0 (n := n) (d := d) (day := day) ho ⟨hr, hi⟩ h2)
            have h2' : ¬ (m : Int) < 2 := by omega
            clear hA hB C0 ho hr hi q1 q2
            go_enter Try.func61, Try.ntmps61
            go_wp2_with fail
            refine C.out.mono ?_
            rintro e w1 ⟨rfl, b1⟩
            have HB1 := Lib.hid b1
            clear b1
            go_wp2_with fail
            refine (CR.out _ ((HA.out.below HB1.out (Nat.le_refl _)).more HB1.out.size)).mono ?_
            rintro e w2 ⟨rfl, b2⟩
            have HB2 := Lib.hid (below_then HB1.out b2)
            clear b2
            go_wp2_with fail
            go_ret
            exact ⟨ret_int HR.out.symm, HB2.out⟩
end Go.Proofs.Ytpmmfalpcooenab.Gd
