/- WidthFor: the spec's and the program's loop for the first width that is wide enough. -/
import Derived.Test.YtcmjbpjeiaifoabGiLib
namespace Go.Proofs.Ytcmjbpjeiaifoab.Wf
open Go.RowKit Ba Nh Wd Gi

/-- What WidthFor answers for arguments that are as they must be: of n widths the first r are too tight. -/
def wfE (r n : Nat) : Value := if r < n then .tuple #[.int .i64 (r : Int), .int .i64 0] else .tuple #[.int .i64 0, .int .i64 10]
theorem wide_at {f h s half g : Int} {n r : Nat} (H : ∀ t, t < n → wide f h s half g t = decide (r ≤ t)) {k : Nat} (hk : k < n) (hr : k < r) : gir f h s half k < g := by
  have := H k hk
  rw [show decide (r ≤ k) = false by simp; omega] at this
  simpa [wide, gir] using this
theorem wide_here {f h s half g : Int} {n r : Nat} (H : ∀ t, t < n → wide f h s half g t = decide (r ≤ t)) {k : Nat} (hk : k < n) (hr : r ≤ k) : g ≤ gir f h s half k := by
  have := H k hk
  rw [show decide (r ≤ k) = true by simpa using hr] at this
  simpa [wide, gir] using this

set_option maxHeartbeats 1000000 in
theorem spec_yes (f h s half g : Int) (n r : Nat) (w : World) (v : wdB f h s n = true) (a : inB half 0 120 = true) (b : inB g 0 5000 = true) (hr : r ≤ n) (H : ∀ t, t < n → wide f h s half g t = decide (r ≤ t)) :
    Calls Try.prog 35 #[.agg #[.int .i64 f, .int .i64 h, .int .i64 s, .int .i64 n], .int .i64 half, .int .i64 g] w fun e w' => e = .returned (wfE r n) ∧ Below w.heap.size w w' := by
  have C := Lib.hid fun w => ok_any f h s n w
  have G := Lib.hid fun (k : Nat) (hk : k < n) u => sgirth f h s n half k v a (by omega) (by have := wd_of v; omega) u
  have HT := Lib.hid fun (k : Nat) (hk : k < n) (hr : k < r) => wide_at H hk hr
  have HW := Lib.hid fun (k : Nat) (hk : k < n) (hr : r ≤ k) => wide_here H hk hr
  have hn : (n : Int) ≤ 12 := by have := wd_of v; omega
  rw [v] at C
  clear v H
  go_enter Try.func35, Try.ntmps35
  go_wp2_with fail
  refine (C.out _).mono ?_
  rintro e w1 ⟨rfl, b1⟩
  have HB1 := Lib.hid (below_then (below_box _ _) b1)
  have K1 := Lib.hid (blk_keep b1 (blk_new _ _))
  clear b1
  go_wp2_with (first | (go_at_call 49; refine (shalf_any _ _).mono ?_; rintro e w' ⟨rfl, rfl⟩) | (go_at_call 51; refine (in_any _ _ _ _).mono ?_; rintro e w' ⟨rfl, rfl⟩))
  go_loopw [8] (fun x wr => ∃ k : Nat, k ≤ r ∧ k ≤ n ∧ x = .int .i64 k ∧ Hid (Below w1.heap.size w1 wr)) (fun x _ => n - (intOf x).toNat)
  case atStart => exact ⟨0, Nat.zero_le _, Nat.zero_le _, rfl, Lib.hid (Below.refl _ _)⟩
  case round =>
    obtain ⟨k, hkr, hk, rfl, HB⟩ := hrel
    have KB := Lib.hid (blk_keep HB.out K1.out)
    have HBB := Lib.hid (below_then HB1.out HB.out)
    obtain ⟨y0, y1, y2, y3⟩ := blk4 KB.out
    by_cases hlt : k < n
    · have G' := Lib.hid fun u => G.out k hlt u
      by_cases hlr : k < r
      · have ht := HT.out k hlt hlr
        generalize gir f h s half k = x at ht G'
        go_wp2_with fail
        refine (G'.out _).mono ?_
        rintro e w2 ⟨rfl, b2⟩
        have HQ := Lib.hid (below_then HB.out b2)
        clear b2 y0 y1 y2 y3
        go_wp2_with fail
        go_roundw
        case rel => exact ⟨k + 1, by omega, by omega, by go_num, HQ⟩
        case measure => simp [intOf]; omega
      · obtain rfl : r = k := by omega
        have ht := HW.out r hlt (Nat.le_refl _)
        have HE : Hid (wfE r n = .tuple #[.int .i64 (r : Int), .int .i64 0]) := Lib.hid (by unfold wfE; rw [if_pos hlt])
        generalize gir f h s half r = x at ht G'
        go_wp2_with fail
        refine (G'.out _).mono ?_
        rintro e w2 ⟨rfl, b2⟩
        have HQ := Lib.hid (below_then HBB.out b2)
        clear b2 y0 y1 y2 y3
        go_wp2_with fail
        go_ret2
        exact ⟨by rw [HE.out]; first | done | rfl, HQ.out⟩
    · have HE : Hid (wfE r n = .tuple #[.int .i64 0, .int .i64 10]) := Lib.hid (by unfold wfE; rw [if_neg (by omega)])
      go_wp2_with fail
      go_ret2
      exact ⟨by rw [HE.out]; first | done | rfl, HBB.out⟩

set_option maxHeartbeats 1000000 in
theorem impl_yes (f h s half g : Int) (n r : Nat) (w : World) (v : wdB f h s n = true) (a : inB half 0 120 = true) (b : inB g 0 5000 = true) (hr : r ≤ n) (H : ∀ t, t < n → wide f h s half g t = decide (r ≤ t)) :
    Calls Try.prog 36 #[.agg #[.int .i64 f, .int .i64 h, .int .i64 s, .int .i64 n], .int .i64 half, .int .i64 g] w fun e w' => e = .returned (wfE r n) ∧ Below w.heap.size w w' := by
  have C := Lib.hid fun w => impl_ok f h s n w
  have G := Lib.hid fun (k : Nat) (hk : k < n) u => igirth f h s n half k v a (by omega) (by have := wd_of v; omega) u
  have HT := Lib.hid fun (k : Nat) (hk : k < n) (hr : k < r) => wide_at H hk hr
  have HW := Lib.hid fun (k : Nat) (hk : k < n) (hr : r ≤ k) => wide_here H hk hr
  have hn : (n : Int) ≤ 12 := by have := wd_of v; omega
  rw [v] at C
  clear v H
  go_enter Try.func36, Try.ntmps36
  go_wp2_with (first | (go_at_call 43; refine (half_any _ _).mono ?_; rintro e w' ⟨rfl, rfl⟩) | (go_at_call 39; refine (within_any _ _ _ _).mono ?_; rintro e w' ⟨rfl, rfl⟩))
  refine (C.out _).mono ?_
  rintro e w1 ⟨rfl, b1⟩
  have HB1 := Lib.hid (below_then (below_box _ _) b1)
  have K1 := Lib.hid (blk_keep b1 (blk_new _ _))
  clear b1
  obtain ⟨x0, x1, x2, x3⟩ := blk4 K1.out
  go_wp2_with (go_at_call 42; refine (arg_ok _).mono ?_; rintro e w' ⟨rfl, rfl⟩)
  clear x0 x1 x2 x3
  go_loopw [10, 26] (fun _ x wr => ∃ k : Nat, k ≤ r ∧ k ≤ n ∧ x = .int .i64 k ∧ Hid (Below w1.heap.size w1 wr)) (fun _ x _ => n - (intOf x).toNat)
  case atStart => exact ⟨0, Nat.zero_le _, Nat.zero_le _, rfl, Lib.hid (Below.refl _ _)⟩
  case round =>
    obtain ⟨k, hkr, hk, rfl, HB⟩ := hrel
    have KB := Lib.hid (blk_keep HB.out K1.out)
    have HBB := Lib.hid (below_then HB1.out HB.out)
    obtain ⟨y0, y1, y2, y3⟩ := blk4 KB.out
    by_cases hlt : k < n
    · have G' := Lib.hid fun u => G.out k hlt u
      by_cases hlr : k < r
      · have ht := HT.out k hlt hlr
        generalize gir f h s half k = x at ht G'
        go_wp2_with fail
        refine (G'.out _).mono ?_
        rintro e w2 ⟨rfl, b2⟩
        have HQ := Lib.hid (below_then HB.out b2)
        clear b2 y0 y1 y2 y3
        go_wp2_with fail
        go_roundw
        case rel => exact ⟨k + 1, by omega, by omega, by go_num, HQ⟩
        case measure => simp [intOf]; omega
      · obtain rfl : r = k := by omega
        have ht := HW.out r hlt (Nat.le_refl _)
        have HE : Hid (wfE r n = .tuple #[.int .i64 (r : Int), .int .i64 0]) := Lib.hid (by unfold wfE; rw [if_pos hlt])
        generalize gir f h s half r = x at ht G'
        go_wp2_with fail
        refine (G'.out _).mono ?_
        rintro e w2 ⟨rfl, b2⟩
        have HQ := Lib.hid (below_then HBB.out b2)
        clear b2 y0 y1 y2 y3
        go_wp2_with fail
        go_ret2
        exact ⟨by rw [HE.out]; first | done | rfl, HQ.out⟩
    · have HE : Hid (wfE r n = .tuple #[.int .i64 0, .int .i64 10]) := Lib.hid (by unfold wfE; rw [if_neg (by omega)])
      go_wp2_with fail
      go_ret2
      exact ⟨by rw [HE.out]; first | done | rfl, HBB.out⟩

/-- Arguments that are not as they must be. -/
theorem spec_no (f h s c half g : Int) (w : World) (ha : wdB f h s c = false ∨ (inB half 0 120 && inB g 0 5000) = false) :
    Calls Try.prog 35 #[.agg #[.int .i64 f, .int .i64 h, .int .i64 s, .int .i64 c], .int .i64 half, .int .i64 g] w fun e w' => e = .returned (.tuple #[.int .i64 0, .int .i64 (argE (wdB f h s c) false)]) ∧ Below w.heap.size w w' := by
  have C := Lib.hid fun w => ok_any f h s c w
  cases v : wdB f h s c <;> rw [v] at C
  · clear ha
    go_enter Try.func35, Try.ntmps35
    go_wp2_with fail
    refine (C.out _).mono ?_
    rintro e w1 ⟨rfl, b1⟩
    go_wp2_with fail
    go_ret2
    exact ⟨rfl, below_then (below_box _ _) b1⟩
  · cases a : inB half 0 120 <;> cases b : inB g 0 5000
    all_goals try (rw [v, a, b] at ha; exact absurd ha (by decide))
    all_goals
      clear ha v
      go_enter Try.func35, Try.ntmps35
      go_wp2_with fail
      refine (C.out _).mono ?_
      rintro e w1 ⟨rfl, b1⟩
      have HB1 := Lib.hid (below_then (below_box _ _) b1)
      clear b1
      go_wp2_with (first | (go_at_call 49; refine (shalf_any _ _).mono ?_; rintro e w' ⟨rfl, rfl⟩) | (go_at_call 51; refine (in_any _ _ _ _).mono ?_; rintro e w' ⟨rfl, rfl⟩))
      go_ret2
      exact ⟨rfl, HB1.out⟩
theorem impl_no (f h s c half g : Int) (w : World) (ha : wdB f h s c = false ∨ (inB half 0 120 && inB g 0 5000) = false) :
    Calls Try.prog 36 #[.agg #[.int .i64 f, .int .i64 h, .int .i64 s, .int .i64 c], .int .i64 half, .int .i64 g] w fun e w' => e = .returned (.tuple #[.int .i64 0, .int .i64 (argE (wdB f h s c) false)]) ∧ Below w.heap.size w w' := by
  have C := Lib.hid fun w => impl_ok f h s c w
  cases v : wdB f h s c <;> rw [v] at C <;> cases a : inB half 0 120 <;> cases b : inB g 0 5000
  all_goals try (rw [v, a, b] at ha; exact absurd ha (by decide))
  all_goals
    clear ha v
    go_enter Try.func36, Try.ntmps36
    go_wp2_with (first | (go_at_call 43; refine (half_any _ _).mono ?_; rintro e w' ⟨rfl, rfl⟩) | (go_at_call 39; refine (within_any _ _ _ _).mono ?_; rintro e w' ⟨rfl, rfl⟩))
    refine (C.out _).mono ?_
    rintro e w1 ⟨rfl, b1⟩
    have HB1 := Lib.hid (below_then (below_box _ _) b1)
    clear b1
    go_wp2_with (go_at_call 42; refine (arg_any _ _ _).mono ?_; rintro e w' ⟨rfl, rfl⟩)
    go_ret2
    exact ⟨rfl, HB1.out⟩

theorem and_no {a b : Bool} (h : (a && b) = false) : a = false ∨ b = false := by
  cases a
  · exact .inl rfl
  · exact .inr h
/-- What WidthFor answers: a width and a code. -/
def wfR (f h s c half g : Int) : Nat := cut c.toNat (wide f h s half g)
def wfV (f h s c half g : Int) : Int := if wdB f h s c && (inB half 0 120 && inB g 0 5000) then (if wfR f h s c half g < c.toNat then (wfR f h s c half g : Int) else 0) else 0
def wfC (f h s c half g : Int) : Int := if wdB f h s c && (inB half 0 120 && inB g 0 5000) then (if wfR f h s c half g < c.toNat then 0 else 10) else argE (wdB f h s c) false
theorem wf_yes {f h s c half g : Int} (v : wdB f h s c = true) (a : inB half 0 120 = true) (b : inB g 0 5000 = true) : wfE (wfR f h s c half g) c.toNat = .tuple #[.int .i64 (wfV f h s c half g), .int .i64 (wfC f h s c half g)] := by
  unfold wfE wfV wfC
  rw [v, a, b]
  simp only [Bool.and_self, if_true]
  split <;> rfl
theorem wf_no {f h s c half g : Int} (ha : (wdB f h s c && (inB half 0 120 && inB g 0 5000)) = false) : wfV f h s c half g = 0 ∧ wfC f h s c half g = argE (wdB f h s c) false := by
  unfold wfV wfC
  rw [ha]
  exact ⟨rfl, rfl⟩
theorem spec_all (f h s c half g : Int) (w : World) : Calls Try.prog 35 #[.agg #[.int .i64 f, .int .i64 h, .int .i64 s, .int .i64 c], .int .i64 half, .int .i64 g] w fun e w' => e = .returned (.tuple #[.int .i64 (wfV f h s c half g), .int .i64 (wfC f h s c half g)]) ∧ Below w.heap.size w w' := by
  cases ha : wdB f h s c && (inB half 0 120 && inB g 0 5000)
  · obtain ⟨e1, e2⟩ := wf_no ha
    rw [e1, e2]
    exact spec_no f h s c half g w (and_no ha)
  · simp only [Bool.and_eq_true] at ha
    obtain ⟨v, a, b⟩ := ha
    have hv := wd_of v
    rw [← wf_yes v a b]
    have e : ((c.toNat : Nat) : Int) = c := by omega
    have := spec_yes f h s half g c.toNat (wfR f h s c half g) w (by rw [e]; exact v) a b (cut_le _ _) (cut_iff _ _ (wide_mono f h s half g (by omega) _))
    rw [e] at this
    exact this
theorem impl_all (f h s c half g : Int) (w : World) : Calls Try.prog 36 #[.agg #[.int .i64 f, .int .i64 h, .int .i64 s, .int .i64 c], .int .i64 half, .int .i64 g] w fun e w' => e = .returned (.tuple #[.int .i64 (wfV f h s c half g), .int .i64 (wfC f h s c half g)]) ∧ Below w.heap.size w w' := by
  cases ha : wdB f h s c && (inB half 0 120 && inB g 0 5000)
  · obtain ⟨e1, e2⟩ := wf_no ha
    rw [e1, e2]
    exact impl_no f h s c half g w (and_no ha)
  · simp only [Bool.and_eq_true] at ha
    obtain ⟨v, a, b⟩ := ha
    have hv := wd_of v
    rw [← wf_yes v a b]
    have e : ((c.toNat : Nat) : Int) = c := by omega
    have := impl_yes f h s half g c.toNat (wfR f h s c half g) w (by rw [e]; exact v) a b (cut_le _ _) (cut_iff _ _ (wide_mono f h s half g (by omega) _))
    rw [e] at this
    exact this
end Go.Proofs.Ytcmjbpjeiaifoab.Wf
