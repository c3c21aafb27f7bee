/- Slices of Cut: how they read in memory (4 numbers an element); the law's measure, copy, comparison, marks and held marks of them. -/
import Derived.Test.YtongfgikkcieaaaFsLib
import Derived.Test.YtongfgikkcieaaaIsLib
import Derived.Test.YtongfgikkcieaaaBwLib
import Derived.Test.YtongfgikkcieaaaQbLib
namespace Go.Proofs.Ytongfgikkcieaaa.Cut
set_option linter.unusedVariables false
open Go.RowKit Go.ChangeShapes Go.WideShapes Go.Deep Ft Is Ge Qb Bw

theorem nums_of_ints {w : World} {B n : Nat} {A : Option Addr} {F : Nat → Nat → Int} (h : Fs.Ints w B 4 A n F) : n ≤ maxLen ∧ Nums w B A (n * 4) (fun k => F (k / 4) (k % 4)) :=
  ⟨h.1, fun hn => by
    obtain ⟨b, off, rfl, hb, hc⟩ := h.2.2 (by omega)
    exact ⟨b, off, rfl, hb, fun i hi => by
      have := hc (i / 4) (by omega) (i % 4) (by omega)
      rw [show i / 4 * 4 + i % 4 = i by omega] at this
      exact this⟩⟩
abbrev reV (a b c d : Int) : Value := .agg #[.int .i64 a, .int .i64 b, .int .i64 c, .int .i64 d]
abbrev reC (a b c d : Int) (t : TypeId) : Obj := .cells #[.int .i64 a, .int .i64 b, .int .i64 c, .int .i64 d] t
theorem info_re : (Try.prog.info? 42).map (fun i => (i.zero, i.size, i.bytes)) = some (some (.agg #[.int .i64 0, .int .i64 0, .int .i64 0, .int .i64 0]), 4, 32) := by kernel_rfl
theorem at_nums {w : World} {g n : Nat} {f : Nat → Int} (h : At w g n f) : Nums w w.heap.size (some ⟨g, 0, none⟩) n f := fun _ => ⟨g, 0, rfl, h.1, fun i hi => by rw [Nat.zero_add]; exact h.2.1 i hi⟩
/-- The cells of one element. -/
theorem cells_at {w : World} {n b off : Nat} {f : Nat → Int} (hc : ∀ i, i < n * 4 → w.cell? ⟨b, off + i, none⟩ = some (.int .i64 (f i))) {k : Nat} (hk : k < n) :
    w.cell? ⟨b, off + k * 4, none⟩ = some (.int .i64 (f (k * 4))) ∧ w.cell? ⟨b, off + k * 4 + 1, none⟩ = some (.int .i64 (f (k * 4 + 1))) ∧ w.cell? ⟨b, off + k * 4 + 2, none⟩ = some (.int .i64 (f (k * 4 + 2))) ∧ w.cell? ⟨b, off + k * 4 + 3, none⟩ = some (.int .i64 (f (k * 4 + 3))) :=
  ⟨hc (k * 4) (by omega), hc (k * 4 + 1) (by omega), hc (k * 4 + 2) (by omega), hc (k * 4 + 3) (by omega)⟩
theorem wf_at {w : World} {n b off : Nat} {f : Nat → Int} (h : ∀ i, i < n * 4 → (Lit.int .i64 (f i)).wf = true) {k : Nat} (hk : k < n) :
    (Lit.int .i64 (f (k * 4))).wf = true ∧ (Lit.int .i64 (f (k * 4 + 1))).wf = true ∧ (Lit.int .i64 (f (k * 4 + 2))).wf = true ∧ (Lit.int .i64 (f (k * 4 + 3))).wf = true :=
  ⟨h (k * 4) (by omega), h (k * 4 + 1) (by omega), h (k * 4 + 2) (by omega), h (k * 4 + 3) (by omega)⟩
/-- The law's measure. -/
theorem sz_rows (A : Option Addr) (n c : Nat) (l : Int) (h0 : 0 ≤ l) (h1 : l ≤ 1048576) (hm : n ≤ maxLen) (w : World) :
    Calls Try.prog 20 #[.slice A n c, .int .i64 l] w fun e w' => ∃ r : Int, e = .returned (.int .i64 r) ∧ -1 ≤ r ∧ r ≤ 1048576 ∧ (0 ≤ r → n ≤ 1048576) ∧ Below w.heap.size w w' := by
  unfold maxLen at hm
  by_cases hb : l - n < 0
  · go_enter Try.func20, Try.ntmps20
    go_wp2_with fail
    go_ret
    exact ⟨-1, rfl, by omega, by omega, fun h => by omega, Below.refl _ _⟩
  · go_enter Try.func20, Try.ntmps20
    go_wp2_with fail
    go_ret
    exact ⟨l - n, rfl, by omega, by omega, fun _ => by omega, Below.refl _ _⟩
theorem to_one (a b c d : Int) (w : World) : Calls Try.prog 28 #[reV a b c d] w fun e w' => e = .returned (reV a b c d) ∧ Below w.heap.size w w' := by
  unfold reV
  go_enter Try.func28, Try.ntmps28
  go_wp2
  exact bodyPost_ret (v := .agg #[.int .i64 a, .int .i64 b, .int .i64 c, .int .i64 d]) (by simp [results, Try.results28, go_sem]) rfl ⟨rfl, by repeat (first | exact Below.refl _ _ | exact below_box _ _ | refine Below.setCell ?_ (by simp <;> omega) _ | refine Below.alloc ?_ (by simp <;> omega) _)⟩
theorem arr_at {arr : Array Value} {n k : Nat} (hs : arr.size = n * 4) (hk : k < n) {f : Nat → Int} (h : ∀ i, i < k * 4 → arr[i]? = some (.int .i64 (f i))) :
    ∀ i, i < (k + 1) * 4 → ((((arr.setIfInBounds (k * 4) (.int .i64 (f (k * 4)))).setIfInBounds (k * 4 + 1) (.int .i64 (f (k * 4 + 1)))).setIfInBounds (k * 4 + 2) (.int .i64 (f (k * 4 + 2)))).setIfInBounds (k * 4 + 3) (.int .i64 (f (k * 4 + 3))))[i]? = some (.int .i64 (f i)) := by
  intro i hi
  simp only [Array.getElem?_setIfInBounds, Array.size_setIfInBounds]
  have R : i < k * 4 ∨ i = k * 4 ∨ i = k * 4 + 1 ∨ i = k * 4 + 2 ∨ i = k * 4 + 3 := by omega
  rcases R with e | rfl | rfl | rfl | rfl
  · rw [if_neg (by omega), if_neg (by omega), if_neg (by omega), if_neg (by omega)]
    exact h i e
  all_goals
    repeat (first | rw [if_pos (by omega)] | rw [if_neg (by omega)])
theorem to_rows (A : Option Addr) (n c : Nat) (f : Nat → Int) (hn : n ≤ 1048576) (w : World) (hA : Nums w w.heap.size A (n * 4) f) :
    Calls Try.prog 22 #[.slice A n c] w fun e w' => ∃ g, e = .returned (.slice (some ⟨g, 0, none⟩) n n) ∧ w.heap.size ≤ g ∧ Hid (At w' g (n * 4) f) ∧ Below w.heap.size w w' := by
  obtain ⟨i0, hi, hz0, hz1, hz2⟩ := info_parts info_re
  have hmk : (Instr.makeSlice 30 (.int .i64 (n : Int)) (.int .i64 (n : Int))).run Try.prog w = _ := run_make w _ _ i0 _ Try.underlying30 hi hz0 .i64 .i64 n n (by omega) (by omega) (by rw [hz2]; omega) (by omega)
  rw [hz1] at hmk
  simp only [Int.toNat_natCast] at hmk
  have HA := Lib.hid hA
  clear hA hz0 hz1 hz2 hi
  go_enter Try.func22, Try.ntmps22
  go_wp2_with fail
  clear hmk
  go_loopw [4] (fun i wr => ∃ (k : Nat) (arr : Array Value), k ≤ n ∧ i = .int .i64 k ∧ Hid (Below w.heap.size w wr) ∧ Hid (wr.heap[w.heap.size]? = some (.cells arr 42 (0, 0))) ∧ Hid (arr.size = n * 4) ∧ Hid (∀ i, i < k * 4 → arr[i]? = some (.int .i64 (f i)))) (fun i _ => n - (intOf i).toNat)
  case atStart => exact ⟨0, _, Nat.zero_le _, rfl, Lib.hid (below_box _ _), Lib.hid (heap_alloc_new _ _), Lib.hid (size_madeCells _ _), Lib.hid fun i hi => by omega⟩
  case round =>
    obtain ⟨k, arr, hk, rfl, HB, hblk, hsz, hall⟩ := hrel
    by_cases hlt : k < n
    · obtain ⟨b, off, rfl, hb, hc⟩ := HA.out (by omega)
      have x0 : wr.cell? ⟨b, off + k * 4, none⟩ = some (.int .i64 (f (k * 4))) := (HB.out.cell (p := ⟨b, off + (k * 4), none⟩) hb).trans (hc (k * 4) (by omega))
      have x1 : wr.cell? ⟨b, off + k * 4 + 1, none⟩ = some (.int .i64 (f (k * 4 + 1))) := (HB.out.cell (p := ⟨b, off + (k * 4 + 1), none⟩) hb).trans (hc (k * 4 + 1) (by omega))
      have x2 : wr.cell? ⟨b, off + k * 4 + 2, none⟩ = some (.int .i64 (f (k * 4 + 2))) := (HB.out.cell (p := ⟨b, off + (k * 4 + 2), none⟩) hb).trans (hc (k * 4 + 2) (by omega))
      have x3 : wr.cell? ⟨b, off + k * 4 + 3, none⟩ = some (.int .i64 (f (k * 4 + 3))) := (HB.out.cell (p := ⟨b, off + (k * 4 + 3), none⟩) hb).trans (hc (k * 4 + 3) (by omega))
      have C := Lib.hid (fun w => to_one (f (k * 4)) (f (k * 4 + 1)) (f (k * 4 + 2)) (f (k * 4 + 3)) w)
      have HN := Lib.hid (arr_at hsz.out hlt hall.out)
      generalize f (k * 4) = u0 at x0 C HN
      generalize f (k * 4 + 1) = u1 at x1 C HN
      generalize f (k * 4 + 2) = u2 at x2 C HN
      generalize f (k * 4 + 3) = u3 at x3 C HN
      have hk1 : k + 1 ≤ n := by omega
      clear hk hc
      go_wp2_with fail
      refine (C.out _).mono ?_
      rintro e w1 ⟨rfl, b1⟩
      have hblk1 := Lib.hid (blk_keep b1 hblk.out)
      have hb1 := Lib.hid (below_then HB.out b1)
      have hold : ∀ j, j < 4 → ∃ v, w1.cell? ⟨w.heap.size, k * 4 + j, none⟩ = some v := fun j hj => ⟨arr[k * 4 + j]'(by have := hsz.out; omega), by
        rw [cell_of_row _ _ _ _ _ _ hblk1.out]; exact Array.getElem?_eq_getElem _⟩
      obtain ⟨v0, y0⟩ := hold 0 (by omega)
      obtain ⟨v1, y1⟩ := hold 1 (by omega)
      obtain ⟨v2, y2⟩ := hold 2 (by omega)
      obtain ⟨v3, y3⟩ := hold 3 (by omega)
      simp only [Nat.add_zero] at y0
      have hfr : ∀ i, w1.frozen? ⟨w.heap.size, i, none⟩ = false := fun i => blk_free hblk1.out i
      clear hold x0 x1 x2 x3 b1
      go_wp2_with fail
      go_roundw
      case rel =>
        refine ⟨k + 1, _, hk1, by go_num, Lib.hid ?_, Lib.hid (heap_set (heap_set (heap_set (heap_set hblk1.out _ _) _ _) _ _) _ _), Lib.hid (by simp [hsz.out]), HN⟩
        exact ((((hb1.out.setCell (Nat.le_refl _) _).setCell (Nat.le_refl _) _).setCell (Nat.le_refl _) _).setCell (Nat.le_refl _) _)
      case measure => simp [intOf]; omega
    · obtain rfl : k = n := by omega
      have HT : Hid (At wr w.heap.size (k * 4) f) := Lib.hid ⟨lt_of_heap hblk.out, fun i hi => (cell_of_row _ _ _ _ _ _ hblk.out).trans (hall.out i hi), fun i => blk_free hblk.out i⟩
      go_wp2_with fail
      go_ret
      exact ⟨_, rfl, Nat.le_refl _, HT, HB.out⟩
theorem eq_one (a b c d : Int) (w : World) : Calls Try.prog 61 #[reV a b c d, reV a b c d] w fun e w' => e = .returned (.bool true) ∧ Below w.heap.size w w' := by
  unfold reV
  go_enter Try.func61, Try.ntmps61
  go_wp2
  go_ret
  exact ⟨rfl, by repeat (first | exact Below.refl _ _ | exact below_box _ _ | refine Below.alloc ?_ (by simp <;> omega) _)⟩
set_option maxRecDepth 100000 in
theorem eq_rows (A1 A2 : Option Addr) (n c1 c2 : Nat) (f : Nat → Int) (hn : n ≤ 1048576) (w : World) (h1 : Nums w w.heap.size A1 (n * 4) f) (h2 : Nums w w.heap.size A2 (n * 4) f) :
    Calls Try.prog 24 #[.slice A1 n c1, .slice A2 n c2] w fun e w' => e = .returned (.bool true) ∧ Below w.heap.size w w' := by
  have H1 := Lib.hid h1
  have H2 := Lib.hid h2
  clear h1 h2
  go_enter Try.func24, Try.ntmps24
  go_wp2_with fail
  go_loopw [5] (fun i wr => ∃ k : Nat, k ≤ n ∧ i = .int .i64 k ∧ Hid (Below w.heap.size w wr)) (fun i _ => n - (intOf i).toNat)
  case atStart => exact ⟨0, Nat.zero_le _, rfl, Lib.hid (Below.refl _ _)⟩
  case round =>
    obtain ⟨k, hk, rfl, HB⟩ := hrel
    by_cases hlt : k < n
    · obtain ⟨b1, off1, rfl, hb1, hc1⟩ := (H1.out.below HB.out (Nat.le_refl _)) (by omega)
      obtain ⟨b2, off2, rfl, hb2, hc2⟩ := (H2.out.below HB.out (Nat.le_refl _)) (by omega)
      obtain ⟨x0, x1, x2, x3⟩ := cells_at hc1 hlt
      obtain ⟨y0, y1, y2, y3⟩ := cells_at hc2 hlt
      have EQ := Lib.hid (fun w => eq_one (f (k * 4)) (f (k * 4 + 1)) (f (k * 4 + 2)) (f (k * 4 + 3)) w)
      generalize f (k * 4) = u0 at x0 y0 EQ
      generalize f (k * 4 + 1) = u1 at x1 y1 EQ
      generalize f (k * 4 + 2) = u2 at x2 y2 EQ
      generalize f (k * 4 + 3) = u3 at x3 y3 EQ
      have e0 : (0 : Int) ≤ (k : Int) := Int.natCast_nonneg _
      have e1 : (k : Int) < (n : Int) := by omega
      clear hc1 hc2
      have x0 := bey_cell x0
      have x1 := bey_cell x1
      have x2 := bey_cell x2
      have x3 := bey_cell x3
      have y0 := bey_cell y0
      have y1 := bey_cell y1
      have y2 := bey_cell y2
      have y3 := bey_cell y3
      go_wp2_with fail
      refine wp_region_below (by kernel_rfl) (by kernel_rfl) ?_
      repeat (go_big_quiet_step (first | (go_at_call 61; exact bey_of _ (EQ.out _))))
      refine wpQuiet_nil ?_
      rintro _ ⟨pq, rfl⟩
      have HQ := Lib.hid (below_then HB.out pq.h)
      generalize pq.to = wq at HQ ⊢
      clear x0 x1 x2 x3 y0 y1 y2 y3
      go_wp2_with fail
      go_roundw
      case rel => exact ⟨k + 1, by omega, by go_num, HQ⟩
      case measure => simp [intOf]; omega
    · go_wp2_with fail
      go_ret
      exact ⟨rfl, HB.out⟩
theorem part_at {w : World} {g n j : Nat} {k0 : Int} {f : Nat → Int} (h : At w g n (Is.part k0 f (j * 4))) (hj : j * 4 + 3 < n) : At ((((w.setCell ⟨g, j * 4, none⟩ (.int .i64 (Is.mk k0 (j * 4)))).setCell ⟨g, j * 4 + 1, none⟩ (.int .i64 (Is.mk k0 (j * 4 + 1)))).setCell ⟨g, j * 4 + 2, none⟩ (.int .i64 (Is.mk k0 (j * 4 + 2)))).setCell ⟨g, j * 4 + 3, none⟩ (.int .i64 (Is.mk k0 (j * 4 + 3)))) g n (Is.part k0 f ((j + 1) * 4)) := by
  rw [show (j + 1) * 4 = j * 4 + 1 + 1 + 1 + 1 by omega]
  exact at_part (at_part (at_part (at_part h (by omega)) (by omega)) (by omega)) (by omega)
set_option maxRecDepth 100000 in
/-- The law's marks in a copy. -/
theorem mark_at (g n c : Nat) (k0 : Int) (f : Nat → Int) (hn : n ≤ 1048576) (h0 : 0 ≤ k0) (h1 : k0 ≤ 1073741824) (w : World) (h : At w g (n * 4) f) :
    Calls Try.prog 43 #[.slice (some ⟨g, 0, none⟩) n c, .int .i64 k0] w fun e w' => e = .returned (.int .i64 (k0 + 4 * (n : Int))) ∧ But g w w' := by
  have HO : Hid (At w g (n * 4) (Is.part k0 f (0 * 4))) := Lib.hid ⟨h.1, fun i hi => by rw [h.2.1 i hi]; simp [Is.part], h.2.2⟩
  clear h
  go_enter Try.func43, Try.ntmps43
  go_wp2_with fail
  go_loopw [1, 5] (fun kk i wr => ∃ j : Nat, j ≤ n ∧ i = .int .i64 j ∧ kk = .int .i64 (k0 + 4 * (j : Int)) ∧ But g w wr ∧ Hid (At wr g (n * 4) (Is.part k0 f (j * 4)))) (fun _ i _ => n - (intOf i).toNat)
  case atStart => exact ⟨0, Nat.zero_le _, rfl, by simp, But.refl _ _, HO⟩
  case round =>
    obtain ⟨j, hj, rfl, rfl, hbut, hat⟩ := hrel
    have HB := Lib.hid hbut
    by_cases hlt : j < n
    · have x0 := hat.out.2.1 (j * 4) (by omega)
      have x1 := hat.out.2.1 (j * 4 + 1) (by omega)
      have x2 := hat.out.2.1 (j * 4 + 2) (by omega)
      have x3 := hat.out.2.1 (j * 4 + 3) (by omega)
      have z0 := hat.out.2.2 (j * 4)
      have z1 := hat.out.2.2 (j * 4 + 1)
      have z2 := hat.out.2.2 (j * 4 + 2)
      have z3 := hat.out.2.2 (j * 4 + 3)
      have HN := Lib.hid (part_at (k0 := k0) (f := f) hat.out (show j * 4 + 3 < n * 4 by omega))
      rw [show Is.mk k0 (j * 4) = k0 + 4 * (j : Int) by unfold Is.mk; omega, show Is.mk k0 (j * 4 + 1) = k0 + 4 * (j : Int) + 1 by unfold Is.mk; omega, show Is.mk k0 (j * 4 + 2) = k0 + 4 * (j : Int) + 1 + 1 by unfold Is.mk; omega, show Is.mk k0 (j * 4 + 3) = k0 + 4 * (j : Int) + 1 + 1 + 1 by unfold Is.mk; omega] at HN
      have e0 : (0 : Int) ≤ (j : Int) := Int.natCast_nonneg _
      have e1 : (j : Int) < (n : Int) := by omega
      have e2 : (j : Int) < 1048576 := by omega
      have hj1 : j + 1 ≤ n := by omega
      clear hbut hj
      generalize Is.part k0 f (j * 4) (j * 4) = old0 at x0
      generalize Is.part k0 f (j * 4) (j * 4 + 1) = old1 at x1
      generalize Is.part k0 f (j * 4) (j * 4 + 2) = old2 at x2
      generalize Is.part k0 f (j * 4) (j * 4 + 3) = old3 at x3
      go_wp2_with fail
      have HQ := Lib.hid ((((HB.out.setCell (j * 4) (.int .i64 (k0 + 4 * (j : Int)))).setCell (j * 4 + 1) (.int .i64 (k0 + 4 * (j : Int) + 1))).setCell (j * 4 + 2) (.int .i64 (k0 + 4 * (j : Int) + 1 + 1))).setCell (j * 4 + 3) (.int .i64 (k0 + 4 * (j : Int) + 1 + 1 + 1)))
      go_roundw
      case rel => exact ⟨j + 1, hj1, by go_num, by go_num, HQ.out, HN⟩
      case measure => simp [intOf]; omega
    · obtain rfl : j = n := by omega
      go_wp2_with fail
      go_ret
      exact ⟨rfl, HB.out⟩
theorem own_at {wr : World} {B n j : Nat} {b off : Nat} {k0 : Int} {f : Nat → Int} (hB : B ≤ b) (hlt : b < wr.heap.size) (hj : j * 4 + 3 < n)
    (hc : ∀ i, i < n → wr.cell? ⟨b, off + i, none⟩ = some (.int .i64 (Is.part k0 f (j * 4) i))) (hf : ∀ i, wr.frozen? ⟨b, i, none⟩ = false) :
    Own ((((wr.setCell ⟨b, off + j * 4, none⟩ (.int .i64 (mk k0 (j * 4)))).setCell ⟨b, off + j * 4 + 1, none⟩ (.int .i64 (mk k0 (j * 4 + 1)))).setCell ⟨b, off + j * 4 + 2, none⟩ (.int .i64 (mk k0 (j * 4 + 2)))).setCell ⟨b, off + j * 4 + 3, none⟩ (.int .i64 (mk k0 (j * 4 + 3)))) B (some ⟨b, off, none⟩) n (Is.part k0 f ((j + 1) * 4)) := by
  obtain ⟨b', off', e, p1a, p1b, p1c, p1d⟩ := own_set (n := n) (j := j * 4) (k0 := k0) (f := f) hB hlt (by omega) hc hf (by omega)
  cases e
  obtain ⟨b', off', e, p2a, p2b, p2c, p2d⟩ := own_set (n := n) (j := j * 4 + 1) (k0 := k0) (f := f) p1a p1b (by omega) p1c p1d (by omega)
  cases e
  obtain ⟨b', off', e, p3a, p3b, p3c, p3d⟩ := own_set (n := n) (j := j * 4 + 2) (k0 := k0) (f := f) p2a p2b (by omega) p2c p2d (by omega)
  cases e
  rw [show (j + 1) * 4 = j * 4 + 1 + 1 + 1 + 1 by omega]
  exact own_set (n := n) (j := j * 4 + 3) p3a p3b hj p3c p3d
set_option maxRecDepth 100000 in
theorem mark_own (A : Option Addr) (n c : Nat) (k0 : Int) (f : Nat → Int) (hn : n ≤ 1048576) (h0 : 0 ≤ k0) (h1 : k0 ≤ 1048576) (B : Nat) (w : World) (h : Own w B A (n * 4) f) :
    Calls Try.prog 43 #[.slice A n c, .int .i64 k0] w fun e w' => e = .returned (.int .i64 (mk k0 (n * 4))) ∧ Own w' B A (n * 4) (mk k0) ∧ Below B w w' := by
  have HO : Hid (Own w B A (n * 4) (Is.part k0 f (0 * 4))) := Lib.hid fun hp => by
    obtain ⟨b, off, e, hB, hlt, hc, hf⟩ := h hp
    exact ⟨b, off, e, hB, hlt, fun i hi => by rw [hc i hi]; simp [Is.part], hf⟩
  have HE : Hid (∀ w', Own w' B A (n * 4) (Is.part k0 f (n * 4)) → Own w' B A (n * 4) (mk k0)) := Lib.hid fun w' ho hp => by
    obtain ⟨b, off, e, hB, hlt, hc, hf⟩ := ho hp
    exact ⟨b, off, e, hB, hlt, fun i hi => by rw [hc i hi]; simp [Is.part, hi], hf⟩
  clear h
  go_enter Try.func43, Try.ntmps43
  go_wp2_with fail
  go_loopw [1, 5] (fun kk i wr => ∃ j : Nat, j ≤ n ∧ i = .int .i64 j ∧ kk = .int .i64 (k0 + 4 * (j : Int)) ∧ Below B w wr ∧ Hid (Own wr B A (n * 4) (Is.part k0 f (j * 4)))) (fun _ i _ => n - (intOf i).toNat)
  case atStart => exact ⟨0, Nat.zero_le _, rfl, by simp, Below.refl _ _, HO⟩
  case round =>
    obtain ⟨j, hj, rfl, rfl, hbel, hown⟩ := hrel
    have HB := Lib.hid hbel
    by_cases hlt : j < n
    · obtain ⟨b, off, rfl, hB, hbs, hc, hf⟩ := hown.out (by omega)
      have x0 : wr.cell? ⟨b, off + j * 4, none⟩ = some (.int .i64 (Is.part k0 f (j * 4) (j * 4))) := hc (j * 4) (by omega)
      have x1 : wr.cell? ⟨b, off + j * 4 + 1, none⟩ = some (.int .i64 (Is.part k0 f (j * 4) (j * 4 + 1))) := hc (j * 4 + 1) (by omega)
      have x2 : wr.cell? ⟨b, off + j * 4 + 2, none⟩ = some (.int .i64 (Is.part k0 f (j * 4) (j * 4 + 2))) := hc (j * 4 + 2) (by omega)
      have x3 : wr.cell? ⟨b, off + j * 4 + 3, none⟩ = some (.int .i64 (Is.part k0 f (j * 4) (j * 4 + 3))) := hc (j * 4 + 3) (by omega)
      have z0 := hf (off + j * 4)
      have z1 := hf (off + j * 4 + 1)
      have z2 := hf (off + j * 4 + 2)
      have z3 := hf (off + j * 4 + 3)
      have HN := Lib.hid (own_at (n := n * 4) (j := j) (k0 := k0) (f := f) hB hbs (by omega) hc hf)
      rw [show mk k0 (j * 4) = k0 + 4 * (j : Int) by unfold mk; omega, show mk k0 (j * 4 + 1) = k0 + 4 * (j : Int) + 1 by unfold mk; omega, show mk k0 (j * 4 + 2) = k0 + 4 * (j : Int) + 1 + 1 by unfold mk; omega, show mk k0 (j * 4 + 3) = k0 + 4 * (j : Int) + 1 + 1 + 1 by unfold mk; omega] at HN
      have e0 : (0 : Int) ≤ (j : Int) := Int.natCast_nonneg _
      have e1 : (j : Int) < (n : Int) := by omega
      have e2 : (j : Int) < 1048576 := by omega
      clear hc hf hbel hj
      generalize Is.part k0 f (j * 4) (j * 4) = old0 at x0
      generalize Is.part k0 f (j * 4) (j * 4 + 1) = old1 at x1
      generalize Is.part k0 f (j * 4) (j * 4 + 2) = old2 at x2
      generalize Is.part k0 f (j * 4) (j * 4 + 3) = old3 at x3
      go_wp2_with fail
      have HQ := Lib.hid ((((HB.out.setCell (p := ⟨b, off + j * 4, none⟩) hB (.int .i64 (k0 + 4 * (j : Int)))).setCell (p := ⟨b, off + j * 4 + 1, none⟩) hB (.int .i64 (k0 + 4 * (j : Int) + 1))).setCell (p := ⟨b, off + j * 4 + 2, none⟩) hB (.int .i64 (k0 + 4 * (j : Int) + 1 + 1))).setCell (p := ⟨b, off + j * 4 + 3, none⟩) hB (.int .i64 (k0 + 4 * (j : Int) + 1 + 1 + 1)))
      go_roundw
      case rel => exact ⟨j + 1, by omega, by go_num, by go_num, HQ.out, HN⟩
      case measure => simp [intOf]; omega
    · obtain rfl : j = n := by omega
      have HF := Lib.hid (HE.out _ hown.out)
      have HM : Hid (mk k0 (j * 4) = k0 + 4 * (j : Int)) := Lib.hid (by unfold mk; omega)
      go_wp2_with fail
      go_ret
      exact ⟨by rw [HM.out]; rfl, HF.out, HB.out⟩
/-- A new list, and a code. -/
def PairS (n : Nat) (d : Nat → Int) (c : Int) (w : World) (e : Ending) (w' : World) : Prop :=
  ∃ A cap, e = .returned (.tuple #[.slice A n cap, .int .i64 c]) ∧ Hid (Own w' w.heap.size A (n * 4) d) ∧ Below w.heap.size w w'
theorem own_of_row {n : Nat} {f : Nat → Int} {w' : World} {B : Nat} {v : Value} (h : w'.ownsRow B 42 4 v n (upto f (n * 4))) : ∃ A cap, v = .slice A n cap ∧ Own w' B A (n * 4) f := by
  rcases h.2 with ⟨rfl, rfl⟩ | ⟨g, cap, cur, rfl, hbg, hh, _⟩
  · exact ⟨none, 0, rfl, fun h => absurd h (by omega)⟩
  · exact ⟨_, cap, rfl, fun _ => ⟨g, 0, rfl, hbg, lt_of_heap hh, fun i hi => by rw [Nat.zero_add]; exact (h.cellAt i (by omega)).trans (upto_get f hi), fun i => blk_free hh i⟩⟩
theorem pair_of_row {n : Nat} {f : Nat → Int} {w w' : World} {v : Value} (h : w'.ownsRow w.heap.size 42 4 v n (upto f (n * 4))) (hb : Below w.heap.size w w') : PairS n f 0 w (.returned (.tuple #[v, .int .i64 0])) w' := by
  obtain ⟨A, cap, rfl, ho⟩ := own_of_row h
  exact ⟨A, cap, rfl, Lib.hid ho, hb⟩
theorem upto_next (f : Nat → Int) (k : Nat) : upto f ((k + 1) * 4) = upto f (k * 4) ++ [.int .i64 (f (k * 4)), .int .i64 (f (k * 4 + 1)), .int .i64 (f (k * 4 + 2)), .int .i64 (f (k * 4 + 3))] := by
  rw [show (k + 1) * 4 = k * 4 + 1 + 1 + 1 + 1 by omega, upto_snoc, upto_snoc, upto_snoc, upto_snoc]
  simp
theorem cells_new (w : World) (a b c d : Value) (t : TypeId) : ∀ j u, [a, b, c, d][j]? = some u → (w.alloc (.cells #[a, b, c, d] t)).cell? ((⟨w.heap.size, 0, none⟩ : Addr).add j) = some u := by
  intro j u hu
  rw [Addr.add_lit, Nat.zero_add, cell_of_row _ _ _ _ _ (0, 0) (heap_alloc_new _ _)]
  simpa using hu
end Go.Proofs.Ytongfgikkcieaaa.Cut
