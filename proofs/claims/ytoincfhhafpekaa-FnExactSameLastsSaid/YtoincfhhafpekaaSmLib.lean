/- Whether two lists of lasts are equal: the spec's and the program's. -/
import Derived.Test.YtoincfhhafpekaaLlLib
namespace Go.Proofs.Ytoincfhhafpekaa.Sm
open Go.RowKit Ft Ge Qb La Ll

theorem guard_last : Try.prog.eqGuardType Try.prog.depth 72 = false := by kernel_rfl
set_option maxHeartbeats 1000000 in
theorem neq_last (s s' : ByteArray) (a b : Nat → Int) (w : World) : (binOp .neq 72 (laV s a) (laV s' b)).run Try.prog w = .ok (.bool (!eq6 s s' a b)) w := by
  have hS : Try.prog.underlying 72 = some (.struct (Try.prog.fieldsOf 72)) := by kernel_rfl
  have hp : Try.prog.stoodInHeld 72 = false := by kernel_rfl
  unfold laV eq6
  rw [run_neq_struct, show (10000 : Nat) = 9999 + 1 from rfl, run_equalIn_agg w 9999 72 _ _ hS hp]
  simp only [Program.fieldsOf, Try.underlying72]
  generalize a 0 = a0, a 1 = a1, a 2 = a2, a 3 = a3, a 4 = a4, b 0 = b0, b 1 = b1, b 2 = b2, b 3 = b3, b 4 = b4
  go_simp
  by_cases h0 : s.toList = s'.toList
  · by_cases h1 : a0 = b0
    · by_cases h2 : a1 = b1
      · by_cases h3 : a2 = b2
        · by_cases h4 : a3 = b3
          · by_cases h5 : a4 = b4 <;> simp [h0, h1, h2, h3, h4, h5]
          · simp [h0, h1, h2, h3, h4]
        · simp [h0, h1, h2, h3]
      · simp [h0, h1, h2]
    · simp [h0, h1]
  · simp [h0]
/-- Two lists are equal. -/
def SOk (n m : Nat) (N M : Nat → ByteArray) (F G : Nat → Nat → Int) : Prop := n = m ∧ ∀ i, i < n → eq6 (N i) (M i) (F i) (G i) = true

set_option maxRecDepth 100000 in
theorem spec_same (A B : Option Addr) (n m c d : Nat) (N M : Nat → ByteArray) (F G : Nat → Nat → Int) (hn : n ≤ 1048576) (w : World) (hA : Lasts w w.heap.size A n N F) (hB : Lasts w w.heap.size B m M G) : Calls Try.prog 40 #[.slice A n c, .slice B m d] w (Tells (SOk n m N M F G) w) := by
  have hm := hB.1
  unfold maxLen at hm
  by_cases hne : n = m
  case neg =>
    have HO : Hid (¬ SOk n m N M F G) := Lib.hid fun e => hne e.1
    have h1 : ((n : Int) != m) = true := by simp; omega
    clear hA hB
    go_enter Try.func40, Try.ntmps40
    go_wp2_with fail
    go_ret
    exact tells_no HO.out (Below.refl _ _)
  case pos =>
    subst hne
    have HA := Lib.hid hA
    have HB0 := Lib.hid hB
    have hg := guard_last
    clear hA hB hm
    go_enter Try.func40, Try.ntmps40
    go_wp2_with fail
    go_loopw [5] (fun i wr => ∃ k : Nat, k ≤ n ∧ i = .int .i64 k ∧ Below w.heap.size w wr ∧ Hid (∀ j, j < k → eq6 (N j) (M j) (F j) (G j) = true)) (fun i _ => n - (intOf i).toNat)
    case atStart => exact ⟨0, Nat.zero_le _, rfl, Below.refl _ _, Lib.hid fun j hj => by omega⟩
    case round =>
      obtain ⟨k, hk, rfl, hbel, hall⟩ := hrel
      have HB := Lib.hid hbel
      by_cases hlt : k < n
      · obtain ⟨b1, off1, rfl, hb1, hc1⟩ := (HA.out.below hbel (Nat.le_refl _)).2.2 (by omega)
        obtain ⟨b2, off2, rfl, hb2, hc2⟩ := (HB0.out.below hbel (Nat.le_refl _)).2.2 (by omega)
        obtain ⟨x0, x1, x2, x3, x4, x5⟩ := Lasts.cells hc1 hlt
        obtain ⟨y0, y1, y2, y3, y4, y5⟩ := Lasts.cells hc2 hlt
        have x0 := bey_cell x0
        have x1 := bey_cell x1
        have x2 := bey_cell x2
        have x3 := bey_cell x3
        have x4 := bey_cell x4
        have x5 := bey_cell x5
        have y0 := bey_cell y0
        have y1 := bey_cell y1
        have y2 := bey_cell y2
        have y3 := bey_cell y3
        have y4 := bey_cell y4
        have y5 := bey_cell y5
        have hq := fun w => neq_last (N k) (M k) (F k) (G k) w
        unfold laV at hq
        have HN : Hid (eq6 (N k) (M k) (F k) (G k) = false → ¬ SOk n n N M F G) := Lib.hid fun h e => by rw [e.2 k hlt] at h; cases h
        have HS := Lib.hid (fun h => step_all (p := fun j => eq6 (N j) (M j) (F j) (G j)) hall.out (k := k) h)
        have e0 : (0 : Int) ≤ (k : Int) := Int.natCast_nonneg _
        have e1 : (k : Int) < (n : Int) := by omega
        generalize eq6 (N k) (M k) (F k) (G k) = r at hq HN HS
        clear hc1 hc2 hbel hk
        go_wp2_with fail
        refine wp_region_below (by kernel_rfl) (by kernel_rfl) ?_
        repeat (go_big_quiet_step (fail))
        refine wpQuiet_nil ?_
        rintro _ ⟨pq, rfl⟩
        have HQ := Lib.hid (HB.out.trans (pq.h.mono HB.out.size))
        generalize pq.to = wq at HQ ⊢
        clear x0 x1 x2 x3 x4 x5 y0 y1 y2 y3 y4 y5 hq
        cases r
        · have HF := Lib.hid (HN.out rfl)
          go_wp2_with fail
          go_ret
          exact tells_no HF.out HQ.out
        · have HD := Lib.hid (HS.out rfl)
          go_wp2_with fail
          go_roundw
          case rel => exact ⟨k + 1, by omega, by go_num, HQ.out, HD⟩
          case measure => simp [intOf]; omega
      · obtain rfl : k = n := by omega
        have HO : Hid (SOk k k N M F G) := Lib.hid ⟨rfl, hall.out⟩
        clear hbel
        go_wp2_with fail
        go_ret
        exact tells_yes HO.out HB.out

set_option maxRecDepth 100000 in
theorem lib_same (A B : Option Addr) (n m c d : Nat) (N M : Nat → ByteArray) (F G : Nat → Nat → Int) (hn : n ≤ 1048576) (w : World) (hA : Lasts w w.heap.size A n N F) (hB : Lasts w w.heap.size B m M G) : Calls Try.prog 79 #[.slice A n c, .slice B m d] w (Tells (SOk n m N M F G) w) := by
  have hm := hB.1
  unfold maxLen at hm
  by_cases hne : n = m
  case neg =>
    have HO : Hid (¬ SOk n m N M F G) := Lib.hid fun e => hne e.1
    have h1 : ((n : Int) != m) = true := by simp; omega
    clear hA hB
    go_enter Try.func79, Try.ntmps79
    go_wp2_with fail
    go_ret
    exact tells_no HO.out (Below.refl _ _)
  case pos =>
    subst hne
    have HA := Lib.hid hA
    have HB0 := Lib.hid hB
    have hg := guard_last
    clear hA hB hm
    go_enter Try.func79, Try.ntmps79
    go_wp2_with fail
    go_loopw [5, 13] (fun _ i wr => ∃ k : Nat, k ≤ n ∧ i = .int .i64 k ∧ Below w.heap.size w wr ∧ Hid (∀ j, j < k → eq6 (N j) (M j) (F j) (G j) = true)) (fun _ i _ => n - (intOf i).toNat)
    case atStart => exact ⟨0, Nat.zero_le _, rfl, Below.refl _ _, Lib.hid fun j hj => by omega⟩
    case round =>
      obtain ⟨k, hk, rfl, hbel, hall⟩ := hrel
      have HB := Lib.hid hbel
      by_cases hlt : k < n
      · obtain ⟨b1, off1, rfl, hb1, hc1⟩ := (HA.out.below hbel (Nat.le_refl _)).2.2 (by omega)
        obtain ⟨b2, off2, rfl, hb2, hc2⟩ := (HB0.out.below hbel (Nat.le_refl _)).2.2 (by omega)
        obtain ⟨x0, x1, x2, x3, x4, x5⟩ := Lasts.cells hc1 hlt
        obtain ⟨y0, y1, y2, y3, y4, y5⟩ := Lasts.cells hc2 hlt
        have x0 := bey_cell x0
        have x1 := bey_cell x1
        have x2 := bey_cell x2
        have x3 := bey_cell x3
        have x4 := bey_cell x4
        have x5 := bey_cell x5
        have y0 := bey_cell y0
        have y1 := bey_cell y1
        have y2 := bey_cell y2
        have y3 := bey_cell y3
        have y4 := bey_cell y4
        have y5 := bey_cell y5
        have hq := fun w => neq_last (N k) (M k) (F k) (G k) w
        unfold laV at hq
        have HN : Hid (eq6 (N k) (M k) (F k) (G k) = false → ¬ SOk n n N M F G) := Lib.hid fun h e => by rw [e.2 k hlt] at h; cases h
        have HS := Lib.hid (fun h => step_all (p := fun j => eq6 (N j) (M j) (F j) (G j)) hall.out (k := k) h)
        have e0 : (0 : Int) ≤ (k : Int) := Int.natCast_nonneg _
        have e1 : (k : Int) < (n : Int) := by omega
        generalize eq6 (N k) (M k) (F k) (G k) = r at hq HN HS
        clear hc1 hc2 hbel hk
        go_wp2_with fail
        refine wp_region_below (by kernel_rfl) (by kernel_rfl) ?_
        repeat (go_big_quiet_step (fail))
        refine wpQuiet_nil ?_
        rintro _ ⟨pq, rfl⟩
        have HQ := Lib.hid (HB.out.trans (pq.h.mono HB.out.size))
        generalize pq.to = wq at HQ ⊢
        clear x0 x1 x2 x3 x4 x5 y0 y1 y2 y3 y4 y5 hq
        cases r
        · have HF := Lib.hid (HN.out rfl)
          go_wp2_with fail
          go_ret
          exact tells_no HF.out HQ.out
        · have HD := Lib.hid (HS.out rfl)
          go_wp2_with fail
          go_roundw
          case rel => exact ⟨k + 1, by omega, by go_num, HQ.out, HD⟩
          case measure => simp [intOf]; omega
      · obtain rfl : k = n := by omega
        have HO : Hid (SOk k k N M F G) := Lib.hid ⟨rfl, hall.out⟩
        clear hbel
        go_wp2_with fail
        go_ret
        exact tells_yes HO.out HB.out

theorem impl_same (A B : Option Addr) (n m c d : Nat) (N M : Nat → ByteArray) (F G : Nat → Nat → Int) (hn : n ≤ 1048576) (w : World) (hA : Lasts w w.heap.size A n N F) (hB : Lasts w w.heap.size B m M G) : Calls Try.prog 41 #[.slice A n c, .slice B m d] w (Tells (SOk n m N M F G) w) := by
  have C := Lib.hid ((lib_same A B n m c d N M F G hn w hA hB).mono fun _ _ t => tells_tv t)
  have HT : Hid (tv (SOk n m N M F G) = true ↔ SOk n m N M F G) := Lib.hid tv_iff
  generalize tv (SOk n m N M F G) = r at C HT
  clear hA hB
  go_enter Try.func41, Try.ntmps41
  go_wp2_with fail
  refine C.out.mono ?_
  rintro e w1 ⟨rfl, b1⟩
  have HB := Lib.hid b1
  clear b1
  go_wp2_with fail
  go_ret
  exact ⟨_, rfl, HT.out, HB.out⟩
end Go.Proofs.Ytoincfhhafpekaa.Sm
