/- Slices of spots: how they read in memory (twice as many numbers); the law's measure, copy, comparison, marks and held marks of them. -/
import Derived.Test.YtggbdpamjjgakaaDoorFsLib
import Derived.Test.YtggbdpamjjgakaaDoorIsLib
import Derived.Test.YtggbdpamjjgakaaDoorBwLib
import Derived.Test.YtggbdpamjjgakaaDoorQbLib
namespace Go.Proofs.YtggbdpamjjgakaaDoor.Ot
set_option linter.unusedVariables false
open Go.RowKit Go.ChangeShapes Go.WideShapes Go.Deep Ft Is Ge Qb Bw

theorem nums_of_ints {w : World} {B n : Nat} {A : Option Addr} {F : Nat → Nat → Int} (h : Fs.Ints w B 2 A n F) : n ≤ maxLen ∧ Nums w B A (n * 2) (fun k => F (k / 2) (k % 2)) :=
  ⟨h.1, fun hn => by
    obtain ⟨b, off, rfl, hb, hc⟩ := h.2.2 (by omega)
    exact ⟨b, off, rfl, hb, fun i hi => by
      have := hc (i / 2) (by omega) (i % 2) (by omega)
      rw [show i / 2 * 2 + i % 2 = i by omega] at this
      exact this⟩⟩
abbrev spV (x y : Int) : Value := .agg #[.int .i64 x, .int .i64 y]
abbrev spC (x y : Int) (t : TypeId) : Obj := .cells #[.int .i64 x, .int .i64 y] t
theorem info_sp : (Tryd.prog.info? 31).map (fun i => (i.zero, i.size, i.bytes)) = some (some (.agg #[.int .i64 0, .int .i64 0]), 2, 16) := by kernel_rfl
/-- The law's measure. -/
theorem sz_spots (A : Option Addr) (n c : Nat) (l : Int) (h0 : 0 ≤ l) (h1 : l ≤ 1048576) (hm : n ≤ maxLen) (w : World) :
    Calls Tryd.prog 4 #[.slice A n c, .int .i64 l] w fun e w' => ∃ r : Int, e = .returned (.int .i64 r) ∧ -1 ≤ r ∧ r ≤ 1048576 ∧ (0 ≤ r → n ≤ 1048576) ∧ Below w.heap.size w w' := by
  unfold maxLen at hm
  by_cases hb : l - n < 0
  · go_enter Tryd.func4, Tryd.ntmps4
    go_wp2_with fail
    go_ret
    exact ⟨-1, rfl, by omega, by omega, fun h => by omega, Below.refl _ _⟩
  · go_enter Tryd.func4, Tryd.ntmps4
    go_wp2_with fail
    go_ret
    exact ⟨l - n, rfl, by omega, by omega, fun _ => by omega, Below.refl _ _⟩
theorem to_sp (x y : Int) (w : World) : Calls Tryd.prog 11 #[spV x y] w fun e w' => e = .returned (spV x y) ∧ Below w.heap.size w w' := by
  unfold spV
  go_enter Tryd.func11, Tryd.ntmps11
  go_wp2
  exact bodyPost_ret (v := .agg #[.int .i64 x, .int .i64 y]) (by simp [results, Tryd.results11, go_sem]) rfl ⟨rfl, by repeat (first | exact Below.refl _ _ | exact below_box _ _ | refine Below.setCell ?_ (by simp <;> omega) _ | refine Below.alloc ?_ (by simp <;> omega) _)⟩
theorem arr_two {arr : Array Value} {n k : Nat} (hs : arr.size = n * 2) (hk : k < n) {f : Nat → Int} (h : ∀ i, i < k * 2 → arr[i]? = some (.int .i64 (f i))) :
    ∀ i, i < (k + 1) * 2 → ((arr.setIfInBounds (k * 2) (.int .i64 (f (k * 2)))).setIfInBounds (k * 2 + 1) (.int .i64 (f (k * 2 + 1))))[i]? = some (.int .i64 (f i)) := by
  intro i hi
  simp only [Array.getElem?_setIfInBounds, Array.size_setIfInBounds]
  by_cases e : k * 2 + 1 = i
  · subst e
    rw [if_pos rfl, if_pos (by omega)]
  · rw [if_neg e]
    by_cases e2 : k * 2 = i
    · subst e2
      rw [if_pos rfl, if_pos (by omega)]
    · rw [if_neg e2]
      exact h i (by omega)
theorem to_spots (A : Option Addr) (n c : Nat) (f : Nat → Int) (hn : n ≤ 1048576) (w : World) (hA : Nums w w.heap.size A (n * 2) f) :
    Calls Tryd.prog 6 #[.slice A n c] w fun e w' => ∃ g, e = .returned (.slice (some ⟨g, 0, none⟩) n n) ∧ w.heap.size ≤ g ∧ Hid (At w' g (n * 2) f) ∧ Below w.heap.size w w' := by
  obtain ⟨i0, hi, hz0, hz1, hz2⟩ := info_parts info_sp
  have hmk : (Instr.makeSlice 25 (.int .i64 (n : Int)) (.int .i64 (n : Int))).run Tryd.prog w = _ := run_make w _ _ i0 _ Tryd.underlying25 hi hz0 .i64 .i64 n n (by omega) (by omega) (by rw [hz2]; omega) (by omega)
  rw [hz1] at hmk
  simp only [Int.toNat_natCast] at hmk
  have HA := Lib.hid hA
  clear hA hz0 hz1 hz2 hi
  go_enter Tryd.func6, Tryd.ntmps6
  go_wp2_with fail
  clear hmk
  go_loopw [4] (fun i wr => ∃ (k : Nat) (arr : Array Value), k ≤ n ∧ i = .int .i64 k ∧ Below w.heap.size w wr ∧ Hid (wr.heap[w.heap.size]? = some (.cells arr 31 (0, 0))) ∧ Hid (arr.size = n * 2) ∧ Hid (∀ i, i < k * 2 → arr[i]? = some (.int .i64 (f i)))) (fun i _ => n - (intOf i).toNat)
  case atStart => exact ⟨0, _, Nat.zero_le _, rfl, below_box _ _, Lib.hid (heap_alloc_new _ _), Lib.hid (size_madeCells _ _), Lib.hid fun i hi => by omega⟩
  case round =>
    obtain ⟨k, arr, hk, rfl, hbel, hblk, hsz, hall⟩ := hrel
    by_cases hlt : k < n
    · obtain ⟨b, off, rfl, hb, hc⟩ := HA.out (by omega)
      have x0 : wr.cell? ⟨b, off + k * 2, none⟩ = some (.int .i64 (f (k * 2))) := (hbel.cell (p := ⟨b, off + k * 2, none⟩) hb).trans (hc (k * 2) (by omega))
      have x1 : wr.cell? ⟨b, off + k * 2 + 1, none⟩ = some (.int .i64 (f (k * 2 + 1))) := (hbel.cell (p := ⟨b, off + (k * 2 + 1), none⟩) hb).trans (hc (k * 2 + 1) (by omega))
      have C := Lib.hid (fun w => to_sp (f (k * 2)) (f (k * 2 + 1)) w)
      have HN := Lib.hid (arr_two hsz.out hlt hall.out)
      generalize f (k * 2) = u0 at x0 C HN
      generalize f (k * 2 + 1) = u1 at x1 C HN
      clear hk
      have HB := Lib.hid hbel
      clear hbel hc
      go_wp2_with fail
      refine (C.out _).mono ?_
      rintro e w1 ⟨rfl, b1⟩
      have hg : w.heap.size < wr.heap.size := lt_of_heap hblk.out
      have hblk1 := Lib.hid ((b1.block w.heap.size hg).trans hblk.out)
      have hb1 := Lib.hid (HB.out.trans (b1.mono HB.out.size))
      have hold : ∀ j, j < 2 → ∃ v, w1.cell? ⟨w.heap.size, k * 2 + j, none⟩ = some v := fun j hj => ⟨arr[k * 2 + j]'(by have := hsz.out; omega), by
        rw [cell_of_row _ _ _ _ _ _ hblk1.out]; exact Array.getElem?_eq_getElem _⟩
      obtain ⟨v0, y0⟩ := hold 0 (by omega)
      obtain ⟨v1, y1⟩ := hold 1 (by omega)
      simp only [Nat.add_zero] at y0
      have hfr : ∀ i, w1.frozen? ⟨w.heap.size, i, none⟩ = false := fun i => by simp [World.frozen?, hblk1.out]
      clear hold x0 x1 b1 hg
      go_wp2_with fail
      go_roundw
      case rel =>
        refine ⟨k + 1, _, by omega, by go_num, ?_, Lib.hid (heap_set (heap_set hblk1.out _ _) _ _), Lib.hid (by simp [hsz.out]), HN⟩
        exact (hb1.out.setCell (Nat.le_refl _) _).setCell (Nat.le_refl _) _
      case measure => simp [intOf]; omega
    · have hkn : k = n := by omega
      subst hkn
      have HT : Hid (At wr w.heap.size (k * 2) f) := Lib.hid ⟨lt_of_heap hblk.out, fun i hi => (cell_of_row _ _ _ _ _ _ hblk.out).trans (hall.out i hi), fun i => blk_free hblk.out i⟩
      have HB := Lib.hid hbel
      clear hbel
      go_wp2_with fail
      go_ret
      exact ⟨w.heap.size, rfl, Nat.le_refl _, HT, HB.out⟩
theorem at_nums {w : World} {g n : Nat} {f : Nat → Int} (h : At w g n f) : Nums w w.heap.size (some ⟨g, 0, none⟩) n f := fun _ => ⟨g, 0, rfl, h.1, fun i hi => by rw [Nat.zero_add]; exact h.2.1 i hi⟩
theorem at_two {w : World} {g n j : Nat} {k0 : Int} {f : Nat → Int} (h : At w g n (Is.part k0 f (j * 2))) (hj : j * 2 + 1 < n) : At ((w.setCell ⟨g, j * 2, none⟩ (.int .i64 (Is.mk k0 (j * 2)))).setCell ⟨g, j * 2 + 1, none⟩ (.int .i64 (Is.mk k0 (j * 2 + 1)))) g n (Is.part k0 f ((j + 1) * 2)) := by
  rw [show (j + 1) * 2 = j * 2 + 1 + 1 by omega]
  exact at_part (at_part h (by omega)) hj
theorem eq_sp (a b : Int) (w : World) : Calls Tryd.prog 15 #[.agg #[.int .i64 a, .int .i64 b], .agg #[.int .i64 a, .int .i64 b]] w fun e w' => e = .returned (.bool true) ∧ Below w.heap.size w w' := by
  go_enter Tryd.func15, Tryd.ntmps15
  go_wp2
  go_ret
  exact ⟨rfl, by repeat (first | exact Below.refl _ _ | exact below_box _ _ | refine Below.alloc ?_ (by simp <;> omega) _)⟩
set_option maxRecDepth 100000 in
theorem eq_spots (A1 A2 : Option Addr) (n c1 c2 : Nat) (f : Nat → Int) (hn : n ≤ 1048576) (w : World) (h1 : Nums w w.heap.size A1 (n * 2) f) (h2 : Nums w w.heap.size A2 (n * 2) f) :
    Calls Tryd.prog 8 #[.slice A1 n c1, .slice A2 n c2] w fun e w' => e = .returned (.bool true) ∧ Below w.heap.size w w' := by
  have H1 := Lib.hid h1
  have H2 := Lib.hid h2
  clear h1 h2
  go_enter Tryd.func8, Tryd.ntmps8
  go_wp2_with fail
  go_loopw [5] (fun i wr => ∃ k : Nat, k ≤ n ∧ i = .int .i64 k ∧ Below w.heap.size w wr) (fun i _ => n - (intOf i).toNat)
  case atStart => exact ⟨0, Nat.zero_le _, rfl, Below.refl _ _⟩
  case round =>
    obtain ⟨k, hk, rfl, hbel⟩ := hrel
    have HB := Lib.hid hbel
    by_cases hlt : k < n
    · obtain ⟨b1, off1, rfl, hb1, hc1⟩ := (H1.out.below hbel (Nat.le_refl _)) (by omega)
      obtain ⟨b2, off2, rfl, hb2, hc2⟩ := (H2.out.below hbel (Nat.le_refl _)) (by omega)
      have x0 : wr.cell? ⟨b1, off1 + k * 2, none⟩ = some (.int .i64 (f (k * 2))) := hc1 (k * 2) (by omega)
      have x1 : wr.cell? ⟨b1, off1 + k * 2 + 1, none⟩ = some (.int .i64 (f (k * 2 + 1))) := hc1 (k * 2 + 1) (by omega)
      have y0 : wr.cell? ⟨b2, off2 + k * 2, none⟩ = some (.int .i64 (f (k * 2))) := hc2 (k * 2) (by omega)
      have y1 : wr.cell? ⟨b2, off2 + k * 2 + 1, none⟩ = some (.int .i64 (f (k * 2 + 1))) := hc2 (k * 2 + 1) (by omega)
      have EQ := Lib.hid (fun w => eq_sp (f (k * 2)) (f (k * 2 + 1)) w)
      generalize f (k * 2) = u0 at x0 y0 EQ
      generalize f (k * 2 + 1) = u1 at x1 y1 EQ
      have e0 : (0 : Int) ≤ (k : Int) := Int.natCast_nonneg _
      have e1 : (k : Int) < (n : Int) := by omega
      clear hc1 hc2 hbel hk
      have x0 := bey_cell x0
      have x1 := bey_cell x1
      have y0 := bey_cell y0
      have y1 := bey_cell y1
      go_wp2_with fail
      refine wp_region_below (by kernel_rfl) (by kernel_rfl) ?_
      repeat (go_big_quiet_step (first | (go_at_call 15; exact bey_of _ (EQ.out _))))
      refine wpQuiet_nil ?_
      rintro _ ⟨pq, rfl⟩
      have HQ := Lib.hid (below_then HB.out pq.h)
      generalize pq.to = wq at HQ ⊢
      clear x0 x1 y0 y1
      go_wp2_with fail
      go_roundw
      case rel => exact ⟨k + 1, by omega, by go_num, HQ.out⟩
      case measure => simp [intOf]; omega
    · go_wp2_with fail
      go_ret
      exact ⟨rfl, HB.out⟩
/-- Two marks are set. -/
theorem two_set {wr : World} {B n j : Nat} {b off : Nat} {k0 : Int} {f : Nat → Int} (hB : B ≤ b) (hlt : b < wr.heap.size) (hj : j * 2 + 1 < n)
    (hc : ∀ i, i < n → wr.cell? ⟨b, off + i, none⟩ = some (.int .i64 (Is.part k0 f (j * 2) i))) (hf : ∀ i, wr.frozen? ⟨b, i, none⟩ = false) :
    Own ((wr.setCell ⟨b, off + j * 2, none⟩ (.int .i64 (mk k0 (j * 2)))).setCell ⟨b, off + j * 2 + 1, none⟩ (.int .i64 (mk k0 (j * 2 + 1)))) B (some ⟨b, off, none⟩) n (Is.part k0 f ((j + 1) * 2)) := by
  obtain ⟨b', off', e, h1, h2, h3, h4⟩ := own_set (n := n) (j := j * 2) (k0 := k0) (f := f) hB hlt (by omega) hc hf (by omega)
  cases e
  rw [show (j + 1) * 2 = j * 2 + 1 + 1 by omega]
  exact own_set (n := n) (j := j * 2 + 1) h1 h2 hj h3 h4
/-- A new list of spots, and a code. -/
def PairS (n : Nat) (d : Nat → Int) (c : Int) (w : World) (e : Ending) (w' : World) : Prop :=
  ∃ A cap, e = .returned (.tuple #[.slice A n cap, .int .i64 c]) ∧ Hid (Own w' w.heap.size A (n * 2) d) ∧ Below w.heap.size w w'
theorem own_of_row {n : Nat} {f : Nat → Int} {w' : World} {B : Nat} {v : Value} (h : w'.ownsRow B 31 2 v n (upto f (n * 2))) : ∃ A cap, v = .slice A n cap ∧ Own w' B A (n * 2) f := by
  rcases h.2 with ⟨rfl, rfl⟩ | ⟨g, cap, cur, rfl, hbg, hh, _⟩
  · exact ⟨none, 0, rfl, fun h => absurd h (by omega)⟩
  · exact ⟨_, cap, rfl, fun _ => ⟨g, 0, rfl, hbg, lt_of_heap hh, fun i hi => by rw [Nat.zero_add]; exact (h.cellAt i (by omega)).trans (upto_get f hi), fun i => blk_free hh i⟩⟩
theorem pair_of_row {n : Nat} {f : Nat → Int} {w w' : World} {v : Value} (h : w'.ownsRow w.heap.size 31 2 v n (upto f (n * 2))) (hb : Below w.heap.size w w') : PairS n f 0 w (.returned (.tuple #[v, .int .i64 0])) w' := by
  obtain ⟨A, cap, rfl, ho⟩ := own_of_row h
  exact ⟨A, cap, rfl, Lib.hid ho, hb⟩
theorem upto_two (f : Nat → Int) (k : Nat) : upto f ((k + 1) * 2) = upto f (k * 2) ++ [.int .i64 (f (k * 2)), .int .i64 (f (k * 2 + 1))] := by
  rw [show (k + 1) * 2 = k * 2 + 1 + 1 by omega, upto_snoc, upto_snoc]
  simp
theorem cells_new2 (w : World) (a b : Value) (t : TypeId) : ∀ j u, [a, b][j]? = some u → (w.alloc (.cells #[a, b] t)).cell? ((⟨w.heap.size, 0, none⟩ : Addr).add j) = some u := by
  intro j u hu
  rw [Addr.add_lit, Nat.zero_add, cell_of_row _ _ _ _ _ (0, 0) (heap_alloc_new _ _)]
  simpa using hu
end Go.Proofs.YtggbdpamjjgakaaDoor.Ot
