/- Slices of Block: how they read in memory (2 numbers an element); the law's measure, copy, comparison, marks and held marks of them. -/
import Derived.Test.YtgclhkiiaclkgabFsLib
import Derived.Test.YtgclhkiiaclkgabIsLib
import Derived.Test.YtgclhkiiaclkgabBwLib
import Derived.Test.YtgclhkiiaclkgabQbLib
namespace Go.Proofs.Ytgclhkiiaclkgab.Blk
set_option linter.unusedVariables false
open Go.RowKit Go.ChangeShapes Go.WideShapes Go.Deep Ft Is Ge Qb Bw

theorem nums_of_ints {w : World} {B n : Nat} {A : Option Addr} {F : Nat → Nat → Int} (h : Fs.Ints w B 2 A n F) : n ≤ maxLen ∧ Nums w B A (n * 2) (fun k => F (k / 2) (k % 2)) :=
  ⟨h.1, fun hn => by
    obtain ⟨b, off, rfl, hb, hc⟩ := h.2.2 (by omega)
    exact ⟨b, off, rfl, hb, fun i hi => by
      have := hc (i / 2) (by omega) (i % 2) (by omega)
      rw [show i / 2 * 2 + i % 2 = i by omega] at this
      exact this⟩⟩
abbrev reV (a b : Int) : Value := .agg #[.int .i64 a, .int .i64 b]
abbrev reC (a b : Int) (t : TypeId) : Obj := .cells #[.int .i64 a, .int .i64 b] t
theorem info_re : (Try.prog.info? 54).map (fun i => (i.zero, i.size, i.bytes)) = some (some (.agg #[.int .i64 0, .int .i64 0]), 2, 16) := by kernel_rfl
theorem at_nums {w : World} {g n : Nat} {f : Nat → Int} (h : At w g n f) : Nums w w.heap.size (some ⟨g, 0, none⟩) n f := fun _ => ⟨g, 0, rfl, h.1, fun i hi => by rw [Nat.zero_add]; exact h.2.1 i hi⟩
/-- The cells of one element. -/
theorem cells_at {w : World} {n b off : Nat} {f : Nat → Int} (hc : ∀ i, i < n * 2 → w.cell? ⟨b, off + i, none⟩ = some (.int .i64 (f i))) {k : Nat} (hk : k < n) :
    w.cell? ⟨b, off + k * 2, none⟩ = some (.int .i64 (f (k * 2))) ∧ w.cell? ⟨b, off + k * 2 + 1, none⟩ = some (.int .i64 (f (k * 2 + 1))) :=
  ⟨hc (k * 2) (by omega), hc (k * 2 + 1) (by omega)⟩
theorem wf_at {w : World} {n b off : Nat} {f : Nat → Int} (h : ∀ i, i < n * 2 → (Lit.int .i64 (f i)).wf = true) {k : Nat} (hk : k < n) :
    (Lit.int .i64 (f (k * 2))).wf = true ∧ (Lit.int .i64 (f (k * 2 + 1))).wf = true :=
  ⟨h (k * 2) (by omega), h (k * 2 + 1) (by omega)⟩
/-- The law's measure. -/
theorem sz_rows (A : Option Addr) (n c : Nat) (l : Int) (h0 : 0 ≤ l) (h1 : l ≤ 1048576) (hm : n ≤ maxLen) (w : World) :
    Calls Try.prog 15 #[.slice A n c, .int .i64 l] w fun e w' => ∃ r : Int, e = .returned (.int .i64 r) ∧ -1 ≤ r ∧ r ≤ 1048576 ∧ (0 ≤ r → n ≤ 1048576) ∧ Below w.heap.size w w' := by
  unfold maxLen at hm
  by_cases hb : l - n < 0
  · go_enter Try.func15, Try.ntmps15
    go_wp2_with fail
    go_ret
    exact ⟨-1, rfl, by omega, by omega, fun h => by omega, Below.refl _ _⟩
  · go_enter Try.func15, Try.ntmps15
    go_wp2_with fail
    go_ret
    exact ⟨l - n, rfl, by omega, by omega, fun _ => by omega, Below.refl _ _⟩
theorem to_one (a b : Int) (w : World) : Calls Try.prog 53 #[reV a b] w fun e w' => e = .returned (reV a b) ∧ Below w.heap.size w w' := by
  unfold reV
  go_enter Try.func53, Try.ntmps53
  go_wp2
  exact bodyPost_ret (v := .agg #[.int .i64 a, .int .i64 b]) (by simp [results, Try.results53, go_sem]) rfl ⟨rfl, by repeat (first | exact Below.refl _ _ | exact below_box _ _ | refine Below.setCell ?_ (by simp <;> omega) _ | refine Below.alloc ?_ (by simp <;> omega) _)⟩
theorem arr_at {arr : Array Value} {n k : Nat} (hs : arr.size = n * 2) (hk : k < n) {f : Nat → Int} (h : ∀ i, i < k * 2 → arr[i]? = some (.int .i64 (f i))) :
    ∀ i, i < (k + 1) * 2 → ((arr.setIfInBounds (k * 2) (.int .i64 (f (k * 2)))).setIfInBounds (k * 2 + 1) (.int .i64 (f (k * 2 + 1))))[i]? = some (.int .i64 (f i)) := by
  intro i hi
  simp only [Array.getElem?_setIfInBounds, Array.size_setIfInBounds]
  have R : i < k * 2 ∨ i = k * 2 ∨ i = k * 2 + 1 := by omega
  rcases R with e | rfl | rfl
  · rw [if_neg (by omega), if_neg (by omega)]
    exact h i e
  all_goals
    repeat (first | rw [if_pos (by omega)] | rw [if_neg (by omega)])
theorem to_rows (A : Option Addr) (n c : Nat) (f : Nat → Int) (hn : n ≤ 1048576) (w : World) (hA : Nums w w.heap.size A (n * 2) f) :
    Calls Try.prog 17 #[.slice A n c] w fun e w' => ∃ g, e = .returned (.slice (some ⟨g, 0, none⟩) n n) ∧ w.heap.size ≤ g ∧ Hid (At w' g (n * 2) f) ∧ Below w.heap.size w w' := by
  obtain ⟨i0, hi, hz0, hz1, hz2⟩ := info_parts info_re
  have hmk : (Instr.makeSlice 25 (.int .i64 (n : Int)) (.int .i64 (n : Int))).run Try.prog w = _ := run_make w _ _ i0 _ Try.underlying25 hi hz0 .i64 .i64 n n (by omega) (by omega) (by rw [hz2]; omega) (by omega)
  rw [hz1] at hmk
  simp only [Int.toNat_natCast] at hmk
  have HA := Lib.hid hA
  clear hA hz0 hz1 hz2 hi
  go_enter Try.func17, Try.ntmps17
  go_wp2_with fail
  clear hmk
  go_loopw [4] (fun i wr => ∃ (k : Nat) (arr : Array Value), k ≤ n ∧ i = .int .i64 k ∧ Hid (Below w.heap.size w wr) ∧ Hid (wr.heap[w.heap.size]? = some (.cells arr 54 (0, 0))) ∧ Hid (arr.size = n * 2) ∧ Hid (∀ i, i < k * 2 → arr[i]? = some (.int .i64 (f i)))) (fun i _ => n - (intOf i).toNat)
  case atStart => exact ⟨0, _, Nat.zero_le _, rfl, Lib.hid (below_box _ _), Lib.hid (heap_alloc_new _ _), Lib.hid (size_madeCells _ _), Lib.hid fun i hi => by omega⟩
  case round =>
    obtain ⟨k, arr, hk, rfl, HB, hblk, hsz, hall⟩ := hrel
    by_cases hlt : k < n
    · obtain ⟨b, off, rfl, hb, hc⟩ := HA.out (by omega)
      have x0 : wr.cell? ⟨b, off + k * 2, none⟩ = some (.int .i64 (f (k * 2))) := (HB.out.cell (p := ⟨b, off + (k * 2), none⟩) hb).trans (hc (k * 2) (by omega))
      have x1 : wr.cell? ⟨b, off + k * 2 + 1, none⟩ = some (.int .i64 (f (k * 2 + 1))) := (HB.out.cell (p := ⟨b, off + (k * 2 + 1), none⟩) hb).trans (hc (k * 2 + 1) (by omega))
      have C := Lib.hid (fun w => to_one (f (k * 2)) (f (k * 2 + 1)) w)
      have HN := Lib.hid (arr_at hsz.out hlt hall.out)
      generalize f (k * 2) = u0 at x0 C HN
      generalize f (k * 2 + 1) = u1 at x1 C HN
      have hk1 : k + 1 ≤ n := by omega
      clear hk hc
      go_wp2_with fail
      refine (C.out _).mono ?_
      rintro e w1 ⟨rfl, b1⟩
      have hblk1 := Lib.hid (blk_keep b1 hblk.out)
      have hb1 := Lib.hid (below_then HB.out b1)
      have hold : ∀ j, j < 2 → ∃ v, w1.cell? ⟨w.heap.size, k * 2 + j, none⟩ = some v := fun j hj => ⟨arr[k * 2 + j]'(by have := hsz.out; omega), by
        rw [cell_of_row _ _ _ _ _ _ hblk1.out]; exact Array.getElem?_eq_getElem _⟩
      obtain ⟨v0, y0⟩ := hold 0 (by omega)
      obtain ⟨v1, y1⟩ := hold 1 (by omega)
      simp only [Nat.add_zero] at y0
      have hfr : ∀ i, w1.frozen? ⟨w.heap.size, i, none⟩ = false := fun i => blk_free hblk1.out i
      clear hold x0 x1 b1
      go_wp2_with fail
      go_roundw
      case rel =>
        refine ⟨k + 1, _, hk1, by go_num, Lib.hid ?_, Lib.hid (heap_set (heap_set hblk1.out _ _) _ _), Lib.hid (by simp [hsz.out]), HN⟩
        exact ((hb1.out.setCell (Nat.le_refl _) _).setCell (Nat.le_refl _) _)
      case measure => simp [intOf]; omega
    · obtain rfl : k = n := by omega
      have HT : Hid (At wr w.heap.size (k * 2) f) := Lib.hid ⟨lt_of_heap hblk.out, fun i hi => (cell_of_row _ _ _ _ _ _ hblk.out).trans (hall.out i hi), fun i => blk_free hblk.out i⟩
      go_wp2_with fail
      go_ret
      exact ⟨_, rfl, Nat.le_refl _, HT, HB.out⟩
theorem eq_one (a b : Int) (w : World) : Calls Try.prog 56 #[reV a b, reV a b] w fun e w' => e = .returned (.bool true) ∧ Below w.heap.size w w' := by
  unfold reV
  go_enter Try.func56, Try.ntmps56
  go_wp2
  go_ret
  exact ⟨rfl, by repeat (first | exact Below.refl _ _ | exact below_box _ _ | refine Below.alloc ?_ (by simp <;> omega) _)⟩
set_option maxRecDepth 100000 in
theorem eq_rows (A1 A2 : Option Addr) (n c1 c2 : Nat) (f : Nat → Int) (hn : n ≤ 1048576) (w : World) (h1 : Nums w w.heap.size A1 (n * 2) f) (h2 : Nums w w.heap.size A2 (n * 2) f) :
    Calls Try.prog 19 #[.slice A1 n c1, .slice A2 n c2] w fun e w' => e = .returned (.bool true) ∧ Below w.heap.size w w' := by
  have H1 := Lib.hid h1
  have H2 := Lib.hid h2
  clear h1 h2
  go_enter Try.func19, Try.ntmps19
  go_wp2_with fail
  go_loopw [5] (fun i wr => ∃ k : Nat, k ≤ n ∧ i = .int .i64 k ∧ Hid (Below w.heap.size w wr)) (fun i _ => n - (intOf i).toNat)
  case atStart => exact ⟨0, Nat.zero_le _, rfl, Lib.hid (Below.refl _ _)⟩
  case round =>
    obtain ⟨k, hk, rfl, HB⟩ := hrel
    by_cases hlt : k < n
    · obtain ⟨b1, off1, rfl, hb1, hc1⟩ := (H1.out.below HB.out (Nat.le_refl _)) (by omega)
      obtain ⟨b2, off2, rfl, hb2, hc2⟩ := (H2.out.below HB.out (Nat.le_refl _)) (by omega)
      obtain ⟨x0, x1⟩ := cells_at hc1 hlt
      obtain ⟨y0, y1⟩ := cells_at hc2 hlt
      have EQ := Lib.hid (fun w => eq_one (f (k * 2)) (f (k * 2 + 1)) w)
      generalize f (k * 2) = u0 at x0 y0 EQ
      generalize f (k * 2 + 1) = u1 at x1 y1 EQ
      have e0 : (0 : Int) ≤ (k : Int) := Int.natCast_nonneg _
      have e1 : (k : Int) < (n : Int) := by omega
      clear hc1 hc2
      have x0 := bey_cell x0
      have x1 := bey_cell x1
      have y0 := bey_cell y0
      have y1 := bey_cell y1
      go_wp2_with fail
      refine wp_region_below (by kernel_rfl) (by kernel_rfl) ?_
      repeat (go_big_quiet_step (first | (go_at_call 56; exact bey_of _ (EQ.out _))))
      refine wpQuiet_nil ?_
      rintro _ ⟨pq, rfl⟩
      have HQ := Lib.hid (below_then HB.out pq.h)
      generalize pq.to = wq at HQ ⊢
      clear x0 x1 y0 y1
      go_wp2_with fail
      go_roundw
      case rel => exact ⟨k + 1, by omega, by go_num, HQ⟩
      case measure => simp [intOf]; omega
    · go_wp2_with fail
      go_ret
      exact ⟨rfl, HB.out⟩
theorem part_at {w : World} {g n j : Nat} {k0 : Int} {f : Nat → Int} (h : At w g n (Is.part k0 f (j * 2))) (hj : j * 2 + 1 < n) : At ((w.setCell ⟨g, j * 2, none⟩ (.int .i64 (Is.mk k0 (j * 2)))).setCell ⟨g, j * 2 + 1, none⟩ (.int .i64 (Is.mk k0 (j * 2 + 1)))) g n (Is.part k0 f ((j + 1) * 2)) := by
  rw [show (j + 1) * 2 = j * 2 + 1 + 1 by omega]
  exact at_part (at_part h (by omega)) (by omega)
set_option maxRecDepth 100000 in
/-- The law's marks in a copy. -/
theorem mark_at (g n c : Nat) (k0 : Int) (f : Nat → Int) (hn : n ≤ 1048576) (h0 : 0 ≤ k0) (h1 : k0 ≤ 1073741824) (w : World) (h : At w g (n * 2) f) :
    Calls Try.prog 30 #[.slice (some ⟨g, 0, none⟩) n c, .int .i64 k0] w fun e w' => e = .returned (.int .i64 (k0 + 2 * (n : Int))) ∧ But g w w' := by
  have HO : Hid (At w g (n * 2) (Is.part k0 f (0 * 2))) := Lib.hid ⟨h.1, fun i hi => by rw [h.2.1 i hi]; simp [Is.part], h.2.2⟩
  clear h
  go_enter Try.func30, Try.ntmps30
  go_wp2_with fail
  go_loopw [1, 5] (fun kk i wr => ∃ j : Nat, j ≤ n ∧ i = .int .i64 j ∧ kk = .int .i64 (k0 + 2 * (j : Int)) ∧ But g w wr ∧ Hid (At wr g (n * 2) (Is.part k0 f (j * 2)))) (fun _ i _ => n - (intOf i).toNat)
  case atStart => exact ⟨0, Nat.zero_le _, rfl, by simp, But.refl _ _, HO⟩
  case round =>
    obtain ⟨j, hj, rfl, rfl, hbut, hat⟩ := hrel
    have HB := Lib.hid hbut
    by_cases hlt : j < n
    · have x0 := hat.out.2.1 (j * 2) (by omega)
      have x1 := hat.out.2.1 (j * 2 + 1) (by omega)
      have z0 := hat.out.2.2 (j * 2)
      have z1 := hat.out.2.2 (j * 2 + 1)
      have HN := Lib.hid (part_at (k0 := k0) (f := f) hat.out (show j * 2 + 1 < n * 2 by omega))
      rw [show Is.mk k0 (j * 2) = k0 + 2 * (j : Int) by unfold Is.mk; omega, show Is.mk k0 (j * 2 + 1) = k0 + 2 * (j : Int) + 1 by unfold Is.mk; omega] at HN
      have e0 : (0 : Int) ≤ (j : Int) := Int.natCast_nonneg _
      have e1 : (j : Int) < (n : Int) := by omega
      have e2 : (j : Int) < 1048576 := by omega
      have hj1 : j + 1 ≤ n := by omega
      clear hbut hj
      generalize Is.part k0 f (j * 2) (j * 2) = old0 at x0
      generalize Is.part k0 f (j * 2) (j * 2 + 1) = old1 at x1
      go_wp2_with fail
      have HQ := Lib.hid ((HB.out.setCell (j * 2) (.int .i64 (k0 + 2 * (j : Int)))).setCell (j * 2 + 1) (.int .i64 (k0 + 2 * (j : Int) + 1)))
      go_roundw
      case rel => exact ⟨j + 1, hj1, by go_num, by go_num, HQ.out, HN⟩
      case measure => simp [intOf]; omega
    · obtain rfl : j = n := by omega
      go_wp2_with fail
      go_ret
      exact ⟨rfl, HB.out⟩
theorem own_at {wr : World} {B n j : Nat} {b off : Nat} {k0 : Int} {f : Nat → Int} (hB : B ≤ b) (hlt : b < wr.heap.size) (hj : j * 2 + 1 < n)
    (hc : ∀ i, i < n → wr.cell? ⟨b, off + i, none⟩ = some (.int .i64 (Is.part k0 f (j * 2) i))) (hf : ∀ i, wr.frozen? ⟨b, i, none⟩ = false) :
    Own ((wr.setCell ⟨b, off + j * 2, none⟩ (.int .i64 (mk k0 (j * 2)))).setCell ⟨b, off + j * 2 + 1, none⟩ (.int .i64 (mk k0 (j * 2 + 1)))) B (some ⟨b, off, none⟩) n (Is.part k0 f ((j + 1) * 2)) := by
  obtain ⟨b', off', e, p1a, p1b, p1c, p1d⟩ := own_set (n := n) (j := j * 2) (k0 := k0) (f := f) hB hlt (by omega) hc hf (by omega)
  cases e
  rw [show (j + 1) * 2 = j * 2 + 1 + 1 by omega]
  exact own_set (n := n) (j := j * 2 + 1) p1a p1b hj p1c p1d
set_option maxRecDepth 100000 in
theorem mark_own (A : Option Addr) (n c : Nat) (k0 : Int) (f : Nat → Int) (hn : n ≤ 1048576) (h0 : 0 ≤ k0) (h1 : k0 ≤ 1048576) (B : Nat) (w : World) (h : Own w B A (n * 2) f) :
    Calls Try.prog 30 #[.slice A n c, .int .i64 k0] w fun e w' => e = .returned (.int .i64 (mk k0 (n * 2))) ∧ Own w' B A (n * 2) (mk k0) ∧ Below B w w' := by
  have HO : Hid (Own w B A (n * 2) (Is.part k0 f (0 * 2))) := Lib.hid fun hp => by
    obtain ⟨b, off, e, hB, hlt, hc, hf⟩ := h hp
    exact ⟨b, off, e, hB, hlt, fun i hi => by rw [hc i hi]; simp [Is.part], hf⟩
  have HE : Hid (∀ w', Own w' B A (n * 2) (Is.part k0 f (n * 2)) → Own w' B A (n * 2) (mk k0)) := Lib.hid fun w' ho hp => by
    obtain ⟨b, off, e, hB, hlt, hc, hf⟩ := ho hp
    exact ⟨b, off, e, hB, hlt, fun i hi => by rw [hc i hi]; simp [Is.part, hi], hf⟩
  clear h
  go_enter Try.func30, Try.ntmps30
  go_wp2_with fail
  go_loopw [1, 5] (fun kk i wr => ∃ j : Nat, j ≤ n ∧ i = .int .i64 j ∧ kk = .int .i64 (k0 + 2 * (j : Int)) ∧ Below B w wr ∧ Hid (Own wr B A (n * 2) (Is.part k0 f (j * 2)))) (fun _ i _ => n - (intOf i).toNat)
  case atStart => exact ⟨0, Nat.zero_le _, rfl, by simp, Below.refl _ _, HO⟩
  case round =>
    obtain ⟨j, hj, rfl, rfl, hbel, hown⟩ := hrel
    have HB := Lib.hid hbel
    by_cases hlt : j < n
    · obtain ⟨b, off, rfl, hB, hbs, hc, hf⟩ := hown.out (by omega)
      have x0 : wr.cell? ⟨b, off + j * 2, none⟩ = some (.int .i64 (Is.part k0 f (j * 2) (j * 2))) := hc (j * 2) (by omega)
      have x1 : wr.cell? ⟨b, off + j * 2 + 1, none⟩ = some (.int .i64 (Is.part k0 f (j * 2) (j * 2 + 1))) := hc (j * 2 + 1) (by omega)
      have z0 := hf (off + j * 2)
      have z1 := hf (off + j * 2 + 1)
      have HN := Lib.hid (own_at (n := n * 2) (j := j) (k0 := k0) (f := f) hB hbs (by omega) hc hf)
      rw [show mk k0 (j * 2) = k0 + 2 * (j : Int) by unfold mk; omega, show mk k0 (j * 2 + 1) = k0 + 2 * (j : Int) + 1 by unfold mk; omega] at HN
      have e0 : (0 : Int) ≤ (j : Int) := Int.natCast_nonneg _
      have e1 : (j : Int) < (n : Int) := by omega
      have e2 : (j : Int) < 1048576 := by omega
      clear hc hf hbel hj
      generalize Is.part k0 f (j * 2) (j * 2) = old0 at x0
      generalize Is.part k0 f (j * 2) (j * 2 + 1) = old1 at x1
      go_wp2_with fail
      have HQ := Lib.hid ((HB.out.setCell (p := ⟨b, off + j * 2, none⟩) hB (.int .i64 (k0 + 2 * (j : Int)))).setCell (p := ⟨b, off + j * 2 + 1, none⟩) hB (.int .i64 (k0 + 2 * (j : Int) + 1)))
      go_roundw
      case rel => exact ⟨j + 1, by omega, by go_num, by go_num, HQ.out, HN⟩
      case measure => simp [intOf]; omega
    · obtain rfl : j = n := by omega
      have HF := Lib.hid (HE.out _ hown.out)
      have HM : Hid (mk k0 (j * 2) = k0 + 2 * (j : Int)) := Lib.hid (by unfold mk; omega)
      go_wp2_with fail
      go_ret
      exact ⟨by rw [HM.out]; rfl, HF.out, HB.out⟩
theorem held_any (A : Option Addr) (n c : Nat) (k0 : Int) (hn : n ≤ 1048576) (h0 : 0 ≤ k0) (h1 : k0 ≤ 1048576) (B : Nat) (w : World) (h : Nums w B A (n * 2) (mk k0)) :
    Calls Try.prog 42 #[.slice A n c, .int .i64 k0] w fun e w' => e = .returned (.int .i64 (mk k0 (n * 2))) ∧ w = w' := by
  have H := Lib.hid h
  clear h
  go_enter Try.func42, Try.ntmps42
  go_wp2_with fail
  go_loop [1, 5] (fun kk i => ∃ j : Nat, j ≤ n ∧ i = .int .i64 j ∧ kk = .int .i64 (k0 + 2 * (j : Int))) (fun _ i => n - (intOf i).toNat)
  case atStart => exact ⟨0, Nat.zero_le _, rfl, by simp⟩
  case round =>
    obtain ⟨j, hj, rfl, rfl⟩ := hrel
    by_cases hlt : j < n
    · obtain ⟨b, off, rfl, hB, hc⟩ := H.out (by omega)
      have x0 : w.cell? ⟨b, off + j * 2, none⟩ = some (.int .i64 (k0 + 2 * (j : Int))) := by rw [show (k0 + 2 * (j : Int)) = mk k0 (j * 2) by unfold mk; omega]; exact hc (j * 2) (by omega)
      have x1 : w.cell? ⟨b, off + j * 2 + 1, none⟩ = some (.int .i64 (k0 + 2 * (j : Int) + 1)) := by rw [show (k0 + 2 * (j : Int) + 1) = mk k0 (j * 2 + 1) by unfold mk; omega]; exact hc (j * 2 + 1) (by omega)
      have e0 : (0 : Int) ≤ (j : Int) := Int.natCast_nonneg _
      have e1 : (j : Int) < (n : Int) := by omega
      have e2 : (j : Int) < 1048576 := by omega
      clear hc hj
      go_wp2_with fail
      go_round
      case rel => exact ⟨j + 1, by omega, by go_num, by go_num⟩
      case measure => simp [intOf]; omega
    · obtain rfl : j = n := by omega
      have HM : Hid (mk k0 (j * 2) = k0 + 2 * (j : Int)) := Lib.hid (by unfold mk; omega)
      go_wp2_with fail
      go_ret
      exact ⟨by rw [HM.out]; rfl, rfl⟩
theorem held_rows (A : Option Addr) (n c : Nat) (k0 : Int) (hn : n ≤ 1048576) (h0 : 0 ≤ k0) (h1 : k0 ≤ 1048576) (w : World) (h : Nums w w.heap.size A (n * 2) (mk k0)) :
    Calls Try.prog 42 #[.slice A n c, .int .i64 k0] w fun e w' => e = .returned (.int .i64 (mk k0 (n * 2))) ∧ Below w.heap.size w w' :=
  (held_any A n c k0 hn h0 h1 w.heap.size w h).mono fun _ _ ⟨h, e⟩ => ⟨h, by rw [← e]; exact Below.refl _ _⟩
/-- A new list, and a code. -/
def PairS (n : Nat) (d : Nat → Int) (c : Int) (w : World) (e : Ending) (w' : World) : Prop :=
  ∃ A cap, e = .returned (.tuple #[.slice A n cap, .int .i64 c]) ∧ Hid (Own w' w.heap.size A (n * 2) d) ∧ Below w.heap.size w w'
theorem own_of_row {n : Nat} {f : Nat → Int} {w' : World} {B : Nat} {v : Value} (h : w'.ownsRow B 54 2 v n (upto f (n * 2))) : ∃ A cap, v = .slice A n cap ∧ Own w' B A (n * 2) f := by
  rcases h.2 with ⟨rfl, rfl⟩ | ⟨g, cap, cur, rfl, hbg, hh, _⟩
  · exact ⟨none, 0, rfl, fun h => absurd h (by omega)⟩
  · exact ⟨_, cap, rfl, fun _ => ⟨g, 0, rfl, hbg, lt_of_heap hh, fun i hi => by rw [Nat.zero_add]; exact (h.cellAt i (by omega)).trans (upto_get f hi), fun i => blk_free hh i⟩⟩
theorem pair_of_row {n : Nat} {f : Nat → Int} {w w' : World} {v : Value} (h : w'.ownsRow w.heap.size 54 2 v n (upto f (n * 2))) (hb : Below w.heap.size w w') : PairS n f 0 w (.returned (.tuple #[v, .int .i64 0])) w' := by
  obtain ⟨A, cap, rfl, ho⟩ := own_of_row h
  exact ⟨A, cap, rfl, Lib.hid ho, hb⟩
theorem upto_next (f : Nat → Int) (k : Nat) : upto f ((k + 1) * 2) = upto f (k * 2) ++ [.int .i64 (f (k * 2)), .int .i64 (f (k * 2 + 1))] := by
  rw [show (k + 1) * 2 = k * 2 + 1 + 1 by omega, upto_snoc, upto_snoc]
  simp
theorem cells_new (w : World) (a b : Value) (t : TypeId) : ∀ j u, [a, b][j]? = some u → (w.alloc (.cells #[a, b] t)).cell? ((⟨w.heap.size, 0, none⟩ : Addr).add j) = some u := by
  intro j u hu
  rw [Addr.add_lit, Nat.zero_add, cell_of_row _ _ _ _ _ (0, 0) (heap_alloc_new _ _)]
  simpa using hu
end Go.Proofs.Ytgclhkiiaclkgab.Blk
