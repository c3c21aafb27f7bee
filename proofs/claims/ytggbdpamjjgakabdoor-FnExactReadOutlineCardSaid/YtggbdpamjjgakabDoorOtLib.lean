/- Slices of spots: how they read in memory (twice as many numbers); the law's measure, copy, comparison, marks and held marks of them. -/
import Derived.Test.YtggbdpamjjgakabDoorFsLib
import Derived.Test.YtggbdpamjjgakabDoorIsLib
import Derived.Test.YtggbdpamjjgakabDoorBwLib
import Derived.Test.YtggbdpamjjgakabDoorQbLib
namespace Go.Proofs.YtggbdpamjjgakabDoor.Ot
set_option linter.unusedVariables false
open Go.RowKit Go.ChangeShapes Go.WideShapes Go.Deep Ft Is Ge Qb Bw

theorem nums_of_ints {w : World} {B n : Nat} {A : Option Addr} {F : Nat → Nat → Int} (h : Fs.Ints w B 2 A n F) : n ≤ maxLen ∧ Nums w B A (n * 2) (fun k => F (k / 2) (k % 2)) :=
  ⟨h.1, fun hn => by
    obtain ⟨b, off, rfl, hb, hc⟩ := h.2.2 (by omega)
    exact ⟨b, off, rfl, hb, fun i hi => by
      have := hc (i / 2) (by omega) (i % 2) (by omega)
      rw [show i / 2 * 2 + i % 2 = i by omega] at this
      exact this⟩⟩
abbrev spV (x y : Int) : Value := .agg #[.int .i64 x, .int .i64 y]
abbrev spC (x y : Int) (t : TypeId) : Obj := .cells #[.int .i64 x, .int .i64 y] t
theorem info_sp : (Tryd.prog.info? 61).map (fun i => (i.zero, i.size, i.bytes)) = some (some (.agg #[.int .i64 0, .int .i64 0]), 2, 16) := by kernel_rfl
theorem arr_two {arr : Array Value} {n k : Nat} (hs : arr.size = n * 2) (hk : k < n) {f : Nat → Int} (h : ∀ i, i < k * 2 → arr[i]? = some (.int .i64 (f i))) :
    ∀ i, i < (k + 1) * 2 → ((arr.setIfInBounds (k * 2) (.int .i64 (f (k * 2)))).setIfInBounds (k * 2 + 1) (.int .i64 (f (k * 2 + 1))))[i]? = some (.int .i64 (f i)) := by
  intro i hi
  simp only [Array.getElem?_setIfInBounds, Array.size_setIfInBounds]
  by_cases e : k * 2 + 1 = i
  · subst e
    rw [if_pos rfl, if_pos (by omega)]
  · rw [if_neg e]
    by_cases e2 : k * 2 = i
    · subst e2
      rw [if_pos rfl, if_pos (by omega)]
    · rw [if_neg e2]
      exact h i (by omega)
theorem at_nums {w : World} {g n : Nat} {f : Nat → Int} (h : At w g n f) : Nums w w.heap.size (some ⟨g, 0, none⟩) n f := fun _ => ⟨g, 0, rfl, h.1, fun i hi => by rw [Nat.zero_add]; exact h.2.1 i hi⟩
theorem at_two {w : World} {g n j : Nat} {k0 : Int} {f : Nat → Int} (h : At w g n (Is.part k0 f (j * 2))) (hj : j * 2 + 1 < n) : At ((w.setCell ⟨g, j * 2, none⟩ (.int .i64 (Is.mk k0 (j * 2)))).setCell ⟨g, j * 2 + 1, none⟩ (.int .i64 (Is.mk k0 (j * 2 + 1)))) g n (Is.part k0 f ((j + 1) * 2)) := by
  rw [show (j + 1) * 2 = j * 2 + 1 + 1 by omega]
  exact at_part (at_part h (by omega)) hj
/-- The law's marks in a copy. -/
theorem mark_at2 (g n c : Nat) (k0 : Int) (f : Nat → Int) (hn : n ≤ 1048576) (h0 : 0 ≤ k0) (h1 : k0 ≤ 1073741824) (w : World) (h : At w g (n * 2) f) :
    Calls Tryd.prog 13 #[.slice (some ⟨g, 0, none⟩) n c, .int .i64 k0] w fun e w' => e = .returned (.int .i64 (k0 + 2 * (n : Int))) ∧ But g w w' := by
  have HO : Hid (At w g (n * 2) (Is.part k0 f (0 * 2))) := Lib.hid ⟨h.1, fun i hi => by rw [h.2.1 i hi]; simp [Is.part], h.2.2⟩
  clear h
  go_enter Tryd.func13, Tryd.ntmps13
  go_wp2_with fail
  go_loopw [1, 5] (fun kk i wr => ∃ j : Nat, j ≤ n ∧ i = .int .i64 j ∧ kk = .int .i64 (k0 + 2 * (j : Int)) ∧ But g w wr ∧ Hid (At wr g (n * 2) (Is.part k0 f (j * 2)))) (fun _ i _ => n - (intOf i).toNat)
  case atStart => exact ⟨0, Nat.zero_le _, rfl, by simp, But.refl _ _, HO⟩
  case round =>
    obtain ⟨j, hj, rfl, rfl, hbut, hat⟩ := hrel
    have HB := Lib.hid hbut
    by_cases hlt : j < n
    · have x0 := hat.out.2.1 (j * 2) (by omega)
      have x1 := hat.out.2.1 (j * 2 + 1) (by omega)
      have z0 := hat.out.2.2 (j * 2)
      have z1 := hat.out.2.2 (j * 2 + 1)
      have HN := Lib.hid (at_two (k0 := k0) (f := f) hat.out (show j * 2 + 1 < n * 2 by omega))
      rw [show Is.mk k0 (j * 2) = k0 + 2 * (j : Int) by unfold Is.mk; omega, show Is.mk k0 (j * 2 + 1) = k0 + 2 * (j : Int) + 1 by unfold Is.mk; omega] at HN
      have e0 : (0 : Int) ≤ (j : Int) := Int.natCast_nonneg _
      have e1 : (j : Int) < (n : Int) := by omega
      have e2 : (j : Int) < 1048576 := by omega
      clear hbut hj
      generalize Is.part k0 f (j * 2) (j * 2) = old0 at x0
      generalize Is.part k0 f (j * 2) (j * 2 + 1) = old1 at x1
      go_wp2_with fail
      have HQ := Lib.hid ((HB.out.setCell (j * 2) (.int .i64 (k0 + 2 * (j : Int)))).setCell (j * 2 + 1) (.int .i64 (k0 + 2 * (j : Int) + 1)))
      go_roundw
      case rel => exact ⟨j + 1, by omega, by go_num, by go_num, HQ.out, HN⟩
      case measure => simp [intOf]; omega
    · obtain rfl : j = n := by omega
      go_wp2_with fail
      go_ret
      exact ⟨rfl, HB.out⟩
theorem eq_sp (a b : Int) (w : World) : Calls Tryd.prog 40 #[.agg #[.int .i64 a, .int .i64 b], .agg #[.int .i64 a, .int .i64 b]] w fun e w' => e = .returned (.bool true) ∧ Below w.heap.size w w' := by
  go_enter Tryd.func40, Tryd.ntmps40
  go_wp2
  go_ret
  exact ⟨rfl, by repeat (first | exact Below.refl _ _ | exact below_box _ _ | refine Below.alloc ?_ (by simp <;> omega) _)⟩
set_option maxRecDepth 100000 in
theorem eq_spots (A1 A2 : Option Addr) (n c1 c2 : Nat) (f : Nat → Int) (hn : n ≤ 1048576) (w : World) (h1 : Nums w w.heap.size A1 (n * 2) f) (h2 : Nums w w.heap.size A2 (n * 2) f) :
    Calls Tryd.prog 12 #[.slice A1 n c1, .slice A2 n c2] w fun e w' => e = .returned (.bool true) ∧ Below w.heap.size w w' := by
  have H1 := Lib.hid h1
  have H2 := Lib.hid h2
  clear h1 h2
  go_enter Tryd.func12, Tryd.ntmps12
  go_wp2_with fail
  go_loopw [5] (fun i wr => ∃ k : Nat, k ≤ n ∧ i = .int .i64 k ∧ Below w.heap.size w wr) (fun i _ => n - (intOf i).toNat)
  case atStart => exact ⟨0, Nat.zero_le _, rfl, Below.refl _ _⟩
  case round =>
    obtain ⟨k, hk, rfl, hbel⟩ := hrel
    have HB := Lib.hid hbel
    by_cases hlt : k < n
    · obtain ⟨b1, off1, rfl, hb1, hc1⟩ := (H1.out.below hbel (Nat.le_refl _)) (by omega)
      obtain ⟨b2, off2, rfl, hb2, hc2⟩ := (H2.out.below hbel (Nat.le_refl _)) (by omega)
      have x0 : wr.cell? ⟨b1, off1 + k * 2, none⟩ = some (.int .i64 (f (k * 2))) := hc1 (k * 2) (by omega)
      have x1 : wr.cell? ⟨b1, off1 + k * 2 + 1, none⟩ = some (.int .i64 (f (k * 2 + 1))) := hc1 (k * 2 + 1) (by omega)
      have y0 : wr.cell? ⟨b2, off2 + k * 2, none⟩ = some (.int .i64 (f (k * 2))) := hc2 (k * 2) (by omega)
      have y1 : wr.cell? ⟨b2, off2 + k * 2 + 1, none⟩ = some (.int .i64 (f (k * 2 + 1))) := hc2 (k * 2 + 1) (by omega)
      have EQ := Lib.hid (fun w => eq_sp (f (k * 2)) (f (k * 2 + 1)) w)
      generalize f (k * 2) = u0 at x0 y0 EQ
      generalize f (k * 2 + 1) = u1 at x1 y1 EQ
      have e0 : (0 : Int) ≤ (k : Int) := Int.natCast_nonneg _
      have e1 : (k : Int) < (n : Int) := by omega
      clear hc1 hc2 hbel hk
      have x0 := bey_cell x0
      have x1 := bey_cell x1
      have y0 := bey_cell y0
      have y1 := bey_cell y1
      go_wp2_with fail
      refine wp_region_below (by kernel_rfl) (by kernel_rfl) ?_
      repeat (go_big_quiet_step (first | (go_at_call 40; exact bey_of _ (EQ.out _))))
      refine wpQuiet_nil ?_
      rintro _ ⟨pq, rfl⟩
      have HQ := Lib.hid (below_then HB.out pq.h)
      generalize pq.to = wq at HQ ⊢
      clear x0 x1 y0 y1
      go_wp2_with fail
      go_roundw
      case rel => exact ⟨k + 1, by omega, by go_num, HQ.out⟩
      case measure => simp [intOf]; omega
    · go_wp2_with fail
      go_ret
      exact ⟨rfl, HB.out⟩
/-- Two marks are set. -/
theorem two_set {wr : World} {B n j : Nat} {b off : Nat} {k0 : Int} {f : Nat → Int} (hB : B ≤ b) (hlt : b < wr.heap.size) (hj : j * 2 + 1 < n)
    (hc : ∀ i, i < n → wr.cell? ⟨b, off + i, none⟩ = some (.int .i64 (Is.part k0 f (j * 2) i))) (hf : ∀ i, wr.frozen? ⟨b, i, none⟩ = false) :
    Own ((wr.setCell ⟨b, off + j * 2, none⟩ (.int .i64 (mk k0 (j * 2)))).setCell ⟨b, off + j * 2 + 1, none⟩ (.int .i64 (mk k0 (j * 2 + 1)))) B (some ⟨b, off, none⟩) n (Is.part k0 f ((j + 1) * 2)) := by
  obtain ⟨b', off', e, h1, h2, h3, h4⟩ := own_set (n := n) (j := j * 2) (k0 := k0) (f := f) hB hlt (by omega) hc hf (by omega)
  cases e
  rw [show (j + 1) * 2 = j * 2 + 1 + 1 by omega]
  exact own_set (n := n) (j := j * 2 + 1) h1 h2 hj h3 h4
theorem mark_spots (A : Option Addr) (n c : Nat) (k0 : Int) (f : Nat → Int) (hn : n ≤ 1048576) (h0 : 0 ≤ k0) (h1 : k0 ≤ 1048576) (B : Nat) (w : World) (h : Own w B A (n * 2) f) :
    Calls Tryd.prog 13 #[.slice A n c, .int .i64 k0] w fun e w' => e = .returned (.int .i64 (mk k0 (n * 2))) ∧ Own w' B A (n * 2) (mk k0) ∧ Below B w w' := by
  have HO : Hid (Own w B A (n * 2) (Is.part k0 f (0 * 2))) := Lib.hid fun hp => by
    obtain ⟨b, off, e, hB, hlt, hc, hf⟩ := h hp
    exact ⟨b, off, e, hB, hlt, fun i hi => by rw [hc i hi]; simp [Is.part], hf⟩
  have HE : Hid (∀ w', Own w' B A (n * 2) (Is.part k0 f (n * 2)) → Own w' B A (n * 2) (mk k0)) := Lib.hid fun w' ho hp => by
    obtain ⟨b, off, e, hB, hlt, hc, hf⟩ := ho hp
    exact ⟨b, off, e, hB, hlt, fun i hi => by rw [hc i hi]; simp [Is.part, hi], hf⟩
  clear h
  go_enter Tryd.func13, Tryd.ntmps13
  go_wp2_with fail
  go_loopw [1, 5] (fun kk i wr => ∃ j : Nat, j ≤ n ∧ i = .int .i64 j ∧ kk = .int .i64 (k0 + 2 * (j : Int)) ∧ Below B w wr ∧ Hid (Own wr B A (n * 2) (Is.part k0 f (j * 2)))) (fun _ i _ => n - (intOf i).toNat)
  case atStart => exact ⟨0, Nat.zero_le _, rfl, by simp, Below.refl _ _, HO⟩
  case round =>
    obtain ⟨j, hj, rfl, rfl, hbel, hown⟩ := hrel
    have HB := Lib.hid hbel
    by_cases hlt : j < n
    · obtain ⟨b, off, rfl, hB, hbs, hc, hf⟩ := hown.out (by omega)
      have x0 : wr.cell? ⟨b, off + j * 2, none⟩ = some (.int .i64 (Is.part k0 f (j * 2) (j * 2))) := hc (j * 2) (by omega)
      have x1 : wr.cell? ⟨b, off + j * 2 + 1, none⟩ = some (.int .i64 (Is.part k0 f (j * 2) (j * 2 + 1))) := hc (j * 2 + 1) (by omega)
      have z0 := hf (off + j * 2)
      have z1 := hf (off + j * 2 + 1)
      have HN := Lib.hid (two_set (n := n * 2) (j := j) (k0 := k0) (f := f) hB hbs (by omega) hc hf)
      rw [show mk k0 (j * 2) = k0 + 2 * (j : Int) by unfold mk; omega, show mk k0 (j * 2 + 1) = k0 + 2 * (j : Int) + 1 by unfold mk; omega] at HN
      have e0 : (0 : Int) ≤ (j : Int) := Int.natCast_nonneg _
      have e1 : (j : Int) < (n : Int) := by omega
      have e2 : (j : Int) < 1048576 := by omega
      clear hc hf hbel hj
      generalize Is.part k0 f (j * 2) (j * 2) = old0 at x0
      generalize Is.part k0 f (j * 2) (j * 2 + 1) = old1 at x1
      go_wp2_with fail
      have HQ := Lib.hid ((HB.out.setCell (p := ⟨b, off + j * 2, none⟩) hB (.int .i64 (k0 + 2 * (j : Int)))).setCell (p := ⟨b, off + j * 2 + 1, none⟩) hB (.int .i64 (k0 + 2 * (j : Int) + 1)))
      go_roundw
      case rel => exact ⟨j + 1, by omega, by go_num, by go_num, HQ.out, HN⟩
      case measure => simp [intOf]; omega
    · obtain rfl : j = n := by omega
      have HF := Lib.hid (HE.out _ hown.out)
      have HM : Hid (mk k0 (j * 2) = k0 + 2 * (j : Int)) := Lib.hid (by unfold mk; omega)
      go_wp2_with fail
      go_ret
      exact ⟨by rw [HM.out]; rfl, HF.out, HB.out⟩
theorem held_spots (A : Option Addr) (n c : Nat) (k0 : Int) (hn : n ≤ 1048576) (h0 : 0 ≤ k0) (h1 : k0 ≤ 1048576) (B : Nat) (w : World) (h : Nums w B A (n * 2) (mk k0)) :
    Calls Tryd.prog 14 #[.slice A n c, .int .i64 k0] w fun e w' => e = .returned (.int .i64 (mk k0 (n * 2))) ∧ w = w' := by
  have H := Lib.hid h
  clear h
  go_enter Tryd.func14, Tryd.ntmps14
  go_wp2_with fail
  go_loop [1, 5] (fun kk i => ∃ j : Nat, j ≤ n ∧ i = .int .i64 j ∧ kk = .int .i64 (k0 + 2 * (j : Int))) (fun _ i => n - (intOf i).toNat)
  case atStart => exact ⟨0, Nat.zero_le _, rfl, by simp⟩
  case round =>
    obtain ⟨j, hj, rfl, rfl⟩ := hrel
    by_cases hlt : j < n
    · obtain ⟨b, off, rfl, hB, hc⟩ := H.out (by omega)
      have x0 : w.cell? ⟨b, off + j * 2, none⟩ = some (.int .i64 (k0 + 2 * (j : Int))) := by rw [show (k0 + 2 * (j : Int)) = mk k0 (j * 2) by unfold mk; omega]; exact hc (j * 2) (by omega)
      have x1 : w.cell? ⟨b, off + j * 2 + 1, none⟩ = some (.int .i64 (k0 + 2 * (j : Int) + 1)) := by rw [show (k0 + 2 * (j : Int) + 1) = mk k0 (j * 2 + 1) by unfold mk; omega]; exact hc (j * 2 + 1) (by omega)
      have e0 : (0 : Int) ≤ (j : Int) := Int.natCast_nonneg _
      have e1 : (j : Int) < (n : Int) := by omega
      have e2 : (j : Int) < 1048576 := by omega
      clear hc hj
      go_wp2_with fail
      go_round
      case rel => exact ⟨j + 1, by omega, by go_num, by go_num⟩
      case measure => simp [intOf]; omega
    · obtain rfl : j = n := by omega
      have HM : Hid (mk k0 (j * 2) = k0 + 2 * (j : Int)) := Lib.hid (by unfold mk; omega)
      go_wp2_with fail
      go_ret
      exact ⟨by rw [HM.out]; rfl, rfl⟩
theorem held_same2 (A : Option Addr) (n c : Nat) (k0 : Int) (hn : n ≤ 1048576) (h0 : 0 ≤ k0) (h1 : k0 ≤ 1048576) (w : World) (h : Nums w w.heap.size A (n * 2) (mk k0)) :
    Calls Tryd.prog 14 #[.slice A n c, .int .i64 k0] w fun e w' => e = .returned (.int .i64 (mk k0 (n * 2))) ∧ Below w.heap.size w w' :=
  (held_spots A n c k0 hn h0 h1 w.heap.size w h).mono fun _ _ ⟨h, e⟩ => ⟨h, by rw [← e]; exact Below.refl _ _⟩
/-- A new list of spots, and a code. -/
def PairS (n : Nat) (d : Nat → Int) (c : Int) (w : World) (e : Ending) (w' : World) : Prop :=
  ∃ A cap, e = .returned (.tuple #[.slice A n cap, .int .i64 c]) ∧ Hid (Own w' w.heap.size A (n * 2) d) ∧ Below w.heap.size w w'
theorem own_of_row {n : Nat} {f : Nat → Int} {w' : World} {B : Nat} {v : Value} (h : w'.ownsRow B 61 2 v n (upto f (n * 2))) : ∃ A cap, v = .slice A n cap ∧ Own w' B A (n * 2) f := by
  rcases h.2 with ⟨rfl, rfl⟩ | ⟨g, cap, cur, rfl, hbg, hh, _⟩
  · exact ⟨none, 0, rfl, fun h => absurd h (by omega)⟩
  · exact ⟨_, cap, rfl, fun _ => ⟨g, 0, rfl, hbg, lt_of_heap hh, fun i hi => by rw [Nat.zero_add]; exact (h.cellAt i (by omega)).trans (upto_get f hi), fun i => blk_free hh i⟩⟩
theorem pair_of_row {n : Nat} {f : Nat → Int} {w w' : World} {v : Value} (h : w'.ownsRow w.heap.size 61 2 v n (upto f (n * 2))) (hb : Below w.heap.size w w') : PairS n f 0 w (.returned (.tuple #[v, .int .i64 0])) w' := by
  obtain ⟨A, cap, rfl, ho⟩ := own_of_row h
  exact ⟨A, cap, rfl, Lib.hid ho, hb⟩
theorem upto_two (f : Nat → Int) (k : Nat) : upto f ((k + 1) * 2) = upto f (k * 2) ++ [.int .i64 (f (k * 2)), .int .i64 (f (k * 2 + 1))] := by
  rw [show (k + 1) * 2 = k * 2 + 1 + 1 by omega, upto_snoc, upto_snoc]
  simp
theorem cells_new2 (w : World) (a b : Value) (t : TypeId) : ∀ j u, [a, b][j]? = some u → (w.alloc (.cells #[a, b] t)).cell? ((⟨w.heap.size, 0, none⟩ : Addr).add j) = some u := by
  intro j u hu
  rw [Addr.add_lit, Nat.zero_add, cell_of_row _ _ _ _ _ (0, 0) (heap_alloc_new _ _)]
  simpa using hu
end Go.Proofs.YtggbdpamjjgakabDoor.Ot
