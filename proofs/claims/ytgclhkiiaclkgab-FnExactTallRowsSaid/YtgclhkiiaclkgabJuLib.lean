/- Blocks on a roll: the spec's RowsFault, HeightOfRows. -/
import Derived.Test.YtgclhkiiaclkgabJtLib
namespace Go.Proofs.Ytgclhkiiaclkgab.Ju
set_option linter.unusedVariables false
open Go.RowKit Is Ge Qb Jr Js Jt
open Go.Proofs.Ytgclhkiiaclkgab.Ba (inB below_then below_box ret_bool)

/-- The first row that is too wide; -1 if there is none. -/
def fa (roll : Int) (f : Nat → Int) : Nat → Int
  | 0 => -1
  | k + 1 => if 0 ≤ fa roll f k then fa roll f k else if roll < f k then (k : Int) else -1
theorem fa_none {roll : Int} {f : Nat → Int} : ∀ {k : Nat}, (∀ j, j < k → f j ≤ roll) → fa roll f k = -1
  | 0, _ => rfl
  | k + 1, h => by
    have h1 := fa_none (k := k) fun j hj => h j (by omega)
    have h2 := h k (by omega)
    unfold fa
    rw [h1, if_neg (by omega), if_neg (by omega)]
theorem fa_keep {roll : Int} {f : Nat → Int} {k : Nat} (h : 0 ≤ fa roll f k) : ∀ d, fa roll f (k + d) = fa roll f k
  | 0 => rfl
  | d + 1 => by
    have := fa_keep h d
    show fa roll f ((k + d) + 1) = _
    rw [fa, this, if_pos h]
theorem fa_hit {roll : Int} {f : Nat → Int} {k N : Nat} (h : ∀ j, j < k → f j ≤ roll) (hk : roll < f k) (hN : k < N) : fa roll f N = (k : Int) := by
  have h1 : fa roll f (k + 1) = (k : Int) := by
    rw [fa, fa_none h, if_neg (by omega), if_pos hk]
  have h2 := fa_keep (roll := roll) (f := f) (k := k + 1) (by rw [h1]; omega) (N - (k + 1))
  rw [show k + 1 + (N - (k + 1)) = N by omega] at h2
  rw [h2, h1]
def hi (f : Nat → Int) : Nat → Int
  | 0 => 0
  | k + 1 => hi f k + f k
theorem hi_in {f : Nat → Int} (h : ∀ k, 0 ≤ f k ∧ f k ≤ 5000) : ∀ k : Nat, 0 ≤ hi f k ∧ hi f k ≤ 5000 * (k : Int)
  | 0 => ⟨Int.le_refl _, Int.le_refl _⟩
  | k + 1 => by
    have h1 := hi_in h k
    have h2 := h k
    unfold hi
    omega
set_option maxHeartbeats 2000000 in
theorem fault (A : Option Addr) (n c : Nat) (g : Nat → Int) (roll : Int) (P : Option Addr) (m pc : Nat) (p : Nat → Int) (hB : BlP roll n g) (hP : ∀ j, j < m → 0 ≤ p j ∧ p j ≤ 8) (hmn : m ≤ n) (w : World) (hA : Nums w w.heap.size A (n * 2) g) (hR : Nums w w.heap.size P m p) :
    Calls Try.prog 59 #[.slice A n c, .int .i64 roll, .slice P m pc] w fun e w' => e = .returned (.int .i64 (fa roll (wd g p m) 9)) ∧ Below w.heap.size w w' := by
  have C := Lib.hid (sums A n c g roll P m pc p hB hP hmn w hA hR)
  have FN := Lib.hid (fun k h => fa_none (roll := roll) (f := wd g p m) (k := k) h)
  have FH := Lib.hid (fun k h1 h2 h3 => fa_hit (roll := roll) (f := wd g p m) (k := k) (N := 9) h1 h2 h3)
  clear hB hP hA hR
  generalize wd g p m = f at *
  generalize ht g p m = h at *
  generalize fa roll f = F at *
  go_enter Try.func59, Try.ntmps59
  go_wp2_with fail
  refine C.out.mono ?_
  rintro e w1 ⟨rfl, s1⟩
  have S1 := Lib.hid s1
  clear s1 C
  go_wp2_with fail
  go_loopw [9] (fun i wr => ∃ k : Nat, k ≤ 9 ∧ i = .int .i64 (k : Int) ∧ Hid (wr = w1) ∧ Hid (∀ j, j < k → f j ≤ roll)) (fun i _ => 9 - (intOf i).toNat)
  case atStart => exact ⟨0, Nat.zero_le _, rfl, Lib.hid rfl, Lib.hid fun j hj => by omega⟩
  case round =>
    obtain ⟨k, hk, rfl, HB, HL⟩ := hrel
    have e0 : (0 : Int) ≤ (k : Int) := Int.natCast_nonneg _
    by_cases hlt : k < 9
    · have e1 : (k : Int) < 9 := by omega
      have hk1 : k + 1 ≤ 9 := by omega
      have x0 := S1.out.wid.2.1 k hlt
      rw [← HB.out] at x0
      have FHk := Lib.hid (fun h2 => FH.out k HL.out h2 hlt)
      have HS : Hid (f k ≤ roll → ∀ j, j < k + 1 → f j ≤ roll) := Lib.hid fun h j hj => by
        by_cases e : j = k
        · subst e; exact h
        · exact HL.out j (by omega)
      have HBB : Hid (Below w.heap.size w wr) := Lib.hid (by rw [HB.out]; exact S1.out.bel)
      clear FN FH HL
      generalize f k = v at *
      by_cases hv : roll < v
      · have HF := Lib.hid (FHk.out hv)
        clear FHk HS
        go_wp2_with fail
        go_ret
        exact ⟨ret_int HF.out.symm, HBB.out⟩
      · have HF := Lib.hid (HS.out (by omega))
        clear FHk HS
        go_wp2_with fail
        go_roundw
        case rel => exact ⟨k + 1, hk1, by go_num, HB, HF⟩
        case measure => simp [intOf]; omega
    · obtain rfl : k = 9 := by omega
      have HF := Lib.hid (FN.out 9 HL.out)
      have HBB : Hid (Below w.heap.size w wr) := Lib.hid (by rw [HB.out]; exact S1.out.bel)
      go_wp2_with fail
      go_ret
      exact ⟨ret_int HF.out.symm, HBB.out⟩
set_option maxHeartbeats 2000000 in
theorem height (A : Option Addr) (n c : Nat) (g : Nat → Int) (roll : Int) (P : Option Addr) (m pc : Nat) (p : Nat → Int) (hB : BlP roll n g) (hP : ∀ j, j < m → 0 ≤ p j ∧ p j ≤ 8) (hmn : m ≤ n) (w : World) (hA : Nums w w.heap.size A (n * 2) g) (hR : Nums w w.heap.size P m p) :
    Calls Try.prog 63 #[.slice A n c, .slice P m pc] w fun e w' => e = .returned (.int .i64 (hi (ht g p m) 9)) ∧ Below w.heap.size w w' := by
  have C := Lib.hid (sums A n c g roll P m pc p hB hP hmn w hA hR)
  have TI := Lib.hid (ht_in p hB hmn)
  have HI := Lib.hid (hi_in (ht_in p hB hmn))
  clear hB hP hA hR
  generalize wd g p m = f at *
  generalize ht g p m = h at *
  have H0 : Hid (hi h 0 = 0) := Lib.hid rfl
  have HS : Hid (∀ k, hi h (k + 1) = hi h k + h k) := Lib.hid fun k => rfl
  generalize hi h = F at *
  go_enter Try.func63, Try.ntmps63
  go_wp2_with fail
  refine C.out.mono ?_
  rintro e w1 ⟨rfl, s1⟩
  have S1 := Lib.hid s1
  clear s1 C
  go_wp2_with fail
  go_loopw [7, 8] (fun u i wr => ∃ k : Nat, k ≤ 9 ∧ u = .int .i64 (F k) ∧ i = .int .i64 (k : Int) ∧ Hid (wr = w1)) (fun _ i _ => 9 - (intOf i).toNat)
  case atStart => exact ⟨0, Nat.zero_le _, by rw [H0.out], rfl, Lib.hid rfl⟩
  case round =>
    obtain ⟨k, hk, rfl, rfl, HB⟩ := hrel
    have e0 : (0 : Int) ≤ (k : Int) := Int.natCast_nonneg _
    by_cases hlt : k < 9
    · have e1 : (k : Int) < 9 := by omega
      have hk1 : k + 1 ≤ 9 := by omega
      have x0 := S1.out.hei.2.1 k hlt
      rw [← HB.out] at x0
      have u1 := HI.out k
      have u2 := TI.out k
      have HSk := Lib.hid (HS.out k)
      clear HI TI HS H0
      generalize hF1 : F (k + 1) = f1 at HSk
      generalize F k = f0 at *
      generalize h k = v at *
      go_wp2_with fail
      go_roundw
      case rel => exact ⟨k + 1, hk1, by rw [hF1, HSk.out], by go_num, HB⟩
      case measure => simp [intOf]; omega
    · obtain rfl : k = 9 := by omega
      have HBB : Hid (Below w.heap.size w wr) := Lib.hid (by rw [HB.out]; exact S1.out.bel)
      clear HI TI HS H0
      generalize hf9 : F 9 = f9
      have HF9 := Lib.hid hf9
      clear hf9
      go_wp2_with fail
      go_ret
      exact ⟨ret_int HF9.out.symm, HBB.out⟩
noncomputable def rfC (roll : Int) (n : Nat) (g : Nat → Int) (m : Nat) (p : Nat → Int) : Int := if roC roll n g m p = 0 ∧ 0 ≤ fa roll (wd g p m) 9 then 6 else roC roll n g m p
noncomputable def rfV (roll : Int) (n : Nat) (g : Nat → Int) (m : Nat) (p : Nat → Int) : Int := if roC roll n g m p = 0 then fa roll (wd g p m) 9 else 0
noncomputable def hrV (roll : Int) (n : Nat) (g : Nat → Int) (m : Nat) (p : Nat → Int) : Int := if rfC roll n g m p = 0 then hi (ht g p m) 9 else 0
theorem ro_use {roll : Int} {n : Nat} {g : Nat → Int} {m : Nat} {p : Nat → Int} (h : roC roll n g m p = 0) : BlP roll n g ∧ (∀ j, j < m → 0 ≤ p j ∧ p j ≤ 8) ∧ m ≤ n := by
  obtain ⟨h1, h2, h3⟩ := ro_ok h
  exact ⟨h1, fun j hj => inb (h2 j hj), by omega⟩
theorem rf_ro {roll : Int} {n : Nat} {g : Nat → Int} {m : Nat} {p : Nat → Int} (h : rfC roll n g m p = 0) : roC roll n g m p = 0 := by
  unfold rfC at h
  split at h
  · omega
  · exact h
theorem spec_rf (A : Option Addr) (n c : Nat) (g : Nat → Int) (roll : Int) (P : Option Addr) (m pc : Nat) (p : Nat → Int) (hn : n ≤ 1048576) (hm : m ≤ 1048576) (w : World) (hA : Nums w w.heap.size A (n * 2) g) (hR : Nums w w.heap.size P m p) :
    Calls Try.prog 22 #[.slice A n c, .int .i64 roll, .slice P m pc] w (IAt (rfV roll n g m p) (roC roll n g m p) w) := by
  have C := Lib.hid (spec_ro A n c g roll P m pc p hn hm w hA hR)
  have CF := Lib.hid (fun (h : roC roll n g m p = 0) => fault A n c g roll P m pc p (ro_use h).1 (ro_use h).2.1 (ro_use h).2.2 w hA hR)
  have V0 : Hid (¬ roC roll n g m p = 0 → rfV roll n g m p = 0) := Lib.hid fun h => if_neg h
  have V1 : Hid (roC roll n g m p = 0 → rfV roll n g m p = fa roll (wd g p m) 9) := Lib.hid fun h => if_pos h
  unfold IAt
  clear hA hR
  generalize rfV roll n g m p = r at *
  generalize fa roll (wd g p m) 9 = x at *
  generalize roC roll n g m p = cd at *
  go_enter Try.func22, Try.ntmps22
  go_wp2_with fail
  refine C.out.mono ?_
  rintro e w1 ⟨rfl, rfl⟩
  by_cases h0 : cd = 0
  · subst h0
    have CF1 := Lib.hid (CF.out rfl)
    have HV := Lib.hid (V1.out rfl)
    clear CF V0 V1 C
    go_wp2_with fail
    refine CF1.out.mono ?_
    rintro e w2 ⟨rfl, b2⟩
    have HB := Lib.hid b2
    clear b2
    go_wp2_with fail
    exact bodyPost_ret (v := .tuple #[.int .i64 x, .int .i64 0]) (by simp [results, Try.results22, go_sem]) rfl ⟨by rw [HV.out], HB.out⟩
  · have hne : (cd != 0) = true := by simpa using h0
    have HV := Lib.hid (V0.out h0)
    clear CF V0 V1 C
    go_wp2_with fail
    exact bodyPost_ret (v := .tuple #[.int .i64 0, .int .i64 cd]) (by simp [results, Try.results22, go_sem]) rfl ⟨by rw [HV.out], Below.refl _ _⟩
theorem fine (A : Option Addr) (n c : Nat) (g : Nat → Int) (roll : Int) (P : Option Addr) (m pc : Nat) (p : Nat → Int) (hn : n ≤ 1048576) (hm : m ≤ 1048576) (w : World) (hA : Nums w w.heap.size A (n * 2) g) (hR : Nums w w.heap.size P m p) :
    Calls Try.prog 62 #[.slice A n c, .int .i64 roll, .slice P m pc] w fun e w' => e = .returned (.int .i64 (rfC roll n g m p)) ∧ Below w.heap.size w w' := by
  have C := Lib.hid (spec_ro A n c g roll P m pc p hn hm w hA hR)
  have CF := Lib.hid (fun (h : roC roll n g m p = 0) => fault A n c g roll P m pc p (ro_use h).1 (ro_use h).2.1 (ro_use h).2.2 w hA hR)
  have V0 : Hid (¬ roC roll n g m p = 0 → rfC roll n g m p = roC roll n g m p) := Lib.hid fun h => if_neg fun e => h e.1
  have V1 : Hid (roC roll n g m p = 0 → 0 ≤ fa roll (wd g p m) 9 → rfC roll n g m p = 6) := Lib.hid fun h h1 => if_pos ⟨h, h1⟩
  have V2 : Hid (roC roll n g m p = 0 → ¬ 0 ≤ fa roll (wd g p m) 9 → rfC roll n g m p = 0) := Lib.hid fun h h1 => (if_neg fun e => h1 e.2).trans h
  clear hA hR
  generalize rfC roll n g m p = r at *
  generalize fa roll (wd g p m) 9 = x at *
  generalize roC roll n g m p = cd at *
  go_enter Try.func62, Try.ntmps62
  go_wp2_with fail
  refine C.out.mono ?_
  rintro e w1 ⟨rfl, rfl⟩
  by_cases h0 : cd = 0
  · subst h0
    have CF1 := Lib.hid (CF.out rfl)
    have X1 := Lib.hid (V1.out rfl)
    have X2 := Lib.hid (V2.out rfl)
    clear CF V0 V1 V2 C
    go_wp2_with fail
    refine CF1.out.mono ?_
    rintro e w2 ⟨rfl, b2⟩
    have HB := Lib.hid b2
    clear b2
    by_cases h1 : 0 ≤ x
    · have HV := Lib.hid (X1.out h1)
      clear X1 X2
      go_wp2_with fail
      go_ret
      exact ⟨ret_int HV.out.symm, HB.out⟩
    · have HV := Lib.hid (X2.out (by omega))
      clear X1 X2
      go_wp2_with fail
      go_ret
      exact ⟨ret_int HV.out.symm, HB.out⟩
  · have hne : (cd == 0) = false := by simpa using h0
    have HV := Lib.hid (V0.out h0)
    clear CF V0 V1 V2 C
    go_wp2_with fail
    go_ret
    exact ⟨ret_int HV.out.symm, Below.refl _ _⟩
theorem spec_hr (A : Option Addr) (n c : Nat) (g : Nat → Int) (roll : Int) (P : Option Addr) (m pc : Nat) (p : Nat → Int) (hn : n ≤ 1048576) (hm : m ≤ 1048576) (w : World) (hA : Nums w w.heap.size A (n * 2) g) (hR : Nums w w.heap.size P m p) :
    Calls Try.prog 26 #[.slice A n c, .int .i64 roll, .slice P m pc] w (IAt (hrV roll n g m p) (rfC roll n g m p) w) := by
  have C := Lib.hid (fine A n c g roll P m pc p hn hm w hA hR)
  have CF := Lib.hid (fun (h : rfC roll n g m p = 0) w1 (b1 : Below w.heap.size w w1) => height A n c g roll P m pc p (ro_use (rf_ro h)).1 (ro_use (rf_ro h)).2.1 (ro_use (rf_ro h)).2.2 w1 ((hA.below b1 (Nat.le_refl _)).more b1.size) ((hR.below b1 (Nat.le_refl _)).more b1.size))
  have V0 : Hid (¬ rfC roll n g m p = 0 → hrV roll n g m p = 0) := Lib.hid fun h => if_neg h
  have V1 : Hid (rfC roll n g m p = 0 → hrV roll n g m p = hi (ht g p m) 9) := Lib.hid fun h => if_pos h
  unfold IAt
  clear hA hR
  generalize hrV roll n g m p = r at *
  generalize hi (ht g p m) 9 = x at *
  generalize rfC roll n g m p = cd at *
  go_enter Try.func26, Try.ntmps26
  go_wp2_with fail
  refine C.out.mono ?_
  rintro e w1 ⟨rfl, b1⟩
  have HB1 := Lib.hid b1
  by_cases h0 : cd = 0
  · subst h0
    have CF1 := Lib.hid (CF.out rfl w1 b1)
    have HV := Lib.hid (V1.out rfl)
    clear CF V0 V1 C b1
    go_wp2_with fail
    refine CF1.out.mono ?_
    rintro e w2 ⟨rfl, b2⟩
    have HB := Lib.hid (below_then HB1.out b2)
    clear b2
    go_wp2_with fail
    exact bodyPost_ret (v := .tuple #[.int .i64 x, .int .i64 0]) (by simp [results, Try.results26, go_sem]) rfl ⟨by rw [HV.out], HB.out⟩
  · have hne : (cd != 0) = true := by simpa using h0
    have HV := Lib.hid (V0.out h0)
    clear CF V0 V1 C b1
    go_wp2_with fail
    exact bodyPost_ret (v := .tuple #[.int .i64 0, .int .i64 cd]) (by simp [results, Try.results26, go_sem]) rfl ⟨by rw [HV.out], HB1.out⟩
end Go.Proofs.Ytgclhkiiaclkgab.Ju
