/- A heap of blocks in memory: its length, which of two comes before, two that change places. -/
import Derived.Test.YtgclhkiiaclkgabToLib
import Derived.Test.YtgclhkiiaclkgabPaLib
import Derived.Test.YtgclhkiiaclkgabBwLib
import Derived.Deep.DeepCutAuto
import Derived.OwnWalk
import Derived.Handy
namespace Go.Proofs.Ytgclhkiiaclkgab.Tq
set_option linter.unusedVariables false
open Go.RowKit Is Ge Qb Jr Pa To
open Go.Proofs.Ytgclhkiiaclkgab.Ba (inB below_then below_box)

/-- A heap's numbers, one after another: width, height, place in the list. -/
def fl (g : Nat → Int) (o : Nat → Nat) (j : Nat) : Int := if j % 3 = 0 then g (o (j / 3) * 2) else if j % 3 = 1 then g (o (j / 3) * 2 + 1) else (o (j / 3) : Int)
theorem fl0 (g : Nat → Int) (o : Nat → Nat) (k : Nat) : fl g o (k * 3) = g (o k * 2) := by unfold fl; rw [if_pos (by omega), show k * 3 / 3 = k by omega]
theorem fl1 (g : Nat → Int) (o : Nat → Nat) (k : Nat) : fl g o (k * 3 + 1) = g (o k * 2 + 1) := by unfold fl; rw [if_neg (by omega), if_pos (by omega), show (k * 3 + 1) / 3 = k by omega]
theorem fl2 (g : Nat → Int) (o : Nat → Nat) (k : Nat) : fl g o (k * 3 + 2) = (o k : Int) := by unfold fl; rw [if_neg (by omega), if_neg (by omega), show (k * 3 + 2) / 3 = k by omega]
/-- The blocks of a heap in memory. -/
def Hr (w : World) (B : Nat) (g : Nat → Int) (v : Value) (r : Nat) (o : Nat → Nat) : Prop := w.ownsRow B 106 3 v r (upto (fl g o) (r * 3))
theorem Hr.cells {w : World} {B : Nat} {g : Nat → Int} {x r cap : Nat} {o : Nat → Nat} (h : Hr w B g (.slice (some ⟨x, 0, none⟩) r cap) r o) {k : Nat} (hk : k < r) : w.cell? ⟨x, k * 3, none⟩ = some (.int .i64 (g (o k * 2))) ∧ w.cell? ⟨x, k * 3 + 1, none⟩ = some (.int .i64 (g (o k * 2 + 1))) ∧ w.cell? ⟨x, k * 3 + 2, none⟩ = some (.int .i64 (o k : Int)) :=
  ⟨by rw [← fl0 g o k]; exact (h.cellAt (k * 3) (by omega)).trans (upto_get _ (by omega)), by rw [← fl1 g o k]; exact (h.cellAt (k * 3 + 1) (by omega)).trans (upto_get _ (by omega)), by rw [← fl2 g o k]; exact (h.cellAt (k * 3 + 2) (by omega)).trans (upto_get _ (by omega))⟩
theorem Hr.slice {w : World} {B : Nat} {g : Nat → Int} {v : Value} {r : Nat} {o : Nat → Nat} (h : Hr w B g v r o) (hr : 0 < r) : ∃ x cap cur, v = .slice (some ⟨x, 0, none⟩) r cap ∧ B ≤ x ∧ x < w.heap.size ∧ r ≤ cap ∧ cap ≤ maxLen ∧ w.heap[x]? = some (.cells cur 106 (0, 0)) := by
  rcases h.2 with ⟨_, rfl⟩ | ⟨g', cap', cur, e, hbg, hh, h1, h2, _⟩
  · omega
  · exact ⟨g', cap', cur, e, hbg, Ge.lt_of_heap hh, h1, h2, hh⟩
set_option maxRecDepth 100000 in
set_option maxHeartbeats 2000000 in
open Classical in
theorem less (w : World) (B : Nat) (g : Nat → Int) (x cap r : Nat) (o : Nat → Nat) (h : Hr w B g (.slice (some ⟨x, 0, none⟩) r cap) r o) (hr : r ≤ 9) (i j : Nat) (hi : i < r) (hj : j < r) :
    Calls Try.prog 119 #[.slice (some ⟨x, 0, none⟩) r cap, .int .i64 (i : Int), .int .i64 (j : Int)] w fun e w' => e = .returned (.bool (decide (bl g (o i) (o j)))) ∧ Below w.heap.size w w' := by
  obtain ⟨x0, x1, x2⟩ := h.cells hi
  obtain ⟨y0, y1, y2⟩ := h.cells hj
  have HC : Hid (decide (bl g (o i) (o j)) = (decide (g (o j * 2 + 1) < g (o i * 2 + 1)) || (decide (g (o i * 2 + 1) = g (o j * 2 + 1)) && decide ((o i : Int) < (o j : Int))))) := Lib.hid (by
    unfold bl
    by_cases c1 : g (o j * 2 + 1) < g (o i * 2 + 1)
    · simp [c1]
    · simp [c1])
  obtain ⟨x', cap', cur, e, _, lx, _⟩ := h.slice (by omega)
  obtain ⟨rfl, rfl⟩ : x = x' ∧ cap = cap' := by simpa using e
  clear e
  have i0 : (0 : Int) ≤ (i : Int) := Int.natCast_nonneg _
  have j0 : (0 : Int) ≤ (j : Int) := Int.natCast_nonneg _
  have i1 : (i : Int) < (r : Int) := by omega
  have j1 : (j : Int) < (r : Int) := by omega
  rw [HC.out]
  clear h HC hr
  generalize g (o i * 2) = a0 at *
  generalize g (o i * 2 + 1) = a1 at *
  generalize (o i : Int) = a2 at *
  generalize g (o j * 2) = b0 at *
  generalize g (o j * 2 + 1) = b1 at *
  generalize (o j : Int) = b2 at *
  go_enter Try.func119, Try.ntmps119
  go_upto_region 1 with fail
  go_region
  · have B1 := Lib.hid (Below.drew (below2 w (.cells #[.int .i64 a0, .int .i64 a1, .int .i64 a2] 106) (.cells #[.int .i64 b0, .int .i64 b1, .int .i64 b2] 106)))
    obtain ⟨k1, k2⟩ := two w (.cells #[.int .i64 a0, .int .i64 a1, .int .i64 a2] 106) (.cells #[.int .i64 b0, .int .i64 b1, .int .i64 b2] 106)
    have p1 := cell_of_row _ _ 1 _ _ _ k1
    have p2 := cell_of_row _ _ 2 _ _ _ k1
    have q1 := cell_of_row _ _ 1 _ _ _ k2
    have q2 := cell_of_row _ _ 2 _ _ _ k2
    clear k1 k2 x0 x1 x2 y0 y1 y2
    by_cases c1 : b1 < a1
    · go_wp2_with fail
      go_ret
      exact ⟨by simp [c1], B1.out⟩
    · by_cases c2 : a1 = b1
      · subst c2
        go_wp2_with fail
        go_ret
        exact ⟨by simp, B1.out⟩
      · go_wp2_with fail
        go_ret
        exact ⟨by simp [c1], B1.out⟩
  · have B1 := Lib.hid (Below.drew (below2 w (.cells #[.int .i64 b0, .int .i64 b1, .int .i64 b2] 106) (.cells #[.int .i64 a0, .int .i64 a1, .int .i64 a2] 106)))
    clear x0 x1 x2 y0 y1 y2
    by_cases c1 : b1 < a1
    · go_wp2_with fail
      go_ret
      exact ⟨by simp [c1], B1.out⟩
    · by_cases c2 : a1 = b1
      · subst c2
        go_wp2_with fail
        go_ret
        exact ⟨by simp, B1.out⟩
      · go_wp2_with fail
        go_ret
        exact ⟨by simp [c1], B1.out⟩
theorem row_set3 {w : World} {B x m cap z : Nat} {f : Nat → Int} {d : Int} (hz : z < m * 3) (h : w.ownsRow B 106 3 (.slice (some ⟨x, 0, none⟩) m cap) m (upto f (m * 3))) : (w.setCell ⟨x, z, none⟩ (.int .i64 d)).ownsRow B 106 3 (.slice (some ⟨x, 0, none⟩) m cap) m (upto (fun j => if j = z then d else f j) (m * 3)) := by
  obtain ⟨_, h2⟩ := h
  rcases h2 with ⟨h0, _⟩ | ⟨g', cap', cur, hv, hg, hh, hn, hcap, hsz, htake⟩
  · cases h0
  · cases hv
    refine ⟨by simp [upto], .inr ⟨x, cap, _, rfl, hg, Ge.heap_set hh z _, by omega, hcap, by simpa using hsz, ?_⟩⟩
    apply List.ext_getElem?
    intro i
    by_cases hi : i < m * 3
    · rw [upto_get _ hi, List.getElem?_take_of_lt (by omega)]
      have h3 := congrArg (fun l => l[i]?) htake
      simp only [upto_get _ hi] at h3
      rw [List.getElem?_take_of_lt (by omega)] at h3
      have h4 : cur[i]? = some (.int .i64 (f i)) := by simpa using h3
      have h5 : i < cur.size := (Array.getElem?_eq_some_iff.1 h4).1
      simp only [Array.getElem?_toList, Array.getElem?_setIfInBounds]
      by_cases e : z = i
      · subst e
        rw [if_pos rfl, if_pos h5, if_pos rfl]
      · rw [if_neg e, h4, if_neg (fun q => e q.symm)]
    · have h1 : (upto (fun j => if j = z then d else f j) (m * 3)).length ≤ i := by simp [upto]; omega
      rw [List.getElem?_eq_none h1, List.getElem?_eq_none (by rw [List.length_take]; omega)]
/-- A block is put in a place. -/
def put3 (w : World) (x k : Nat) (a b c : Int) : World := ((w.setCell ⟨x, k * 3, none⟩ (.int .i64 a)).setCell ⟨x, k * 3 + 1, none⟩ (.int .i64 b)).setCell ⟨x, k * 3 + 2, none⟩ (.int .i64 c)
theorem fl_put {g : Nat → Int} {o o' : Nat → Nat} {k y : Nat} (hk : o' k = y) (h : ∀ j, j ≠ k → o' j = o j) (j : Nat) : (if j = k * 3 + 2 then (y : Int) else if j = k * 3 + 1 then g (y * 2 + 1) else if j = k * 3 then g (y * 2) else fl g o j) = fl g o' j := by
  by_cases e2 : j = k * 3 + 2
  · rw [if_pos e2, e2, fl2, hk]
  · by_cases e1 : j = k * 3 + 1
    · rw [if_neg e2, if_pos e1, e1, fl1, hk]
    · by_cases e0 : j = k * 3
      · rw [if_neg e2, if_neg e1, if_pos e0, e0, fl0, hk]
      · rw [if_neg e2, if_neg e1, if_neg e0]
        have : j / 3 ≠ k := by omega
        unfold fl
        rw [h _ this]
theorem Hr.put {w : World} {B : Nat} {g : Nat → Int} {x r cap : Nat} {o o' : Nat → Nat} (h : Hr w B g (.slice (some ⟨x, 0, none⟩) r cap) r o) {k y : Nat} (hr : k < r) (hk : o' k = y) (hj : ∀ j, j ≠ k → o' j = o j) : Hr (put3 w x k (g (y * 2)) (g (y * 2 + 1)) (y : Int)) B g (.slice (some ⟨x, 0, none⟩) r cap) r o' := by
  have h1 := row_set3 (d := g (y * 2)) (show k * 3 < r * 3 by omega) h
  have h2 := row_set3 (d := g (y * 2 + 1)) (show k * 3 + 1 < r * 3 by omega) h1
  have h3 := row_set3 (d := (y : Int)) (show k * 3 + 2 < r * 3 by omega) h2
  have e : (fun j => if j = k * 3 + 2 then (y : Int) else (fun j => if j = k * 3 + 1 then g (y * 2 + 1) else (fun j => if j = k * 3 then g (y * 2) else fl g o j) j) j) = fl g o' := funext fun j => fl_put hk hj j
  rw [e] at h3
  exact h3
set_option maxRecDepth 100000 in
set_option maxHeartbeats 4000000 in
theorem swap (w : World) (B : Nat) (g : Nat → Int) (x cap r : Nat) (o : Nat → Nat) (h : Hr w B g (.slice (some ⟨x, 0, none⟩) r cap) r o) (hr : r ≤ 9) (i j : Nat) (hij : i < j) (hj : j < r) :
    Calls Try.prog 120 #[.slice (some ⟨x, 0, none⟩) r cap, .int .i64 (i : Int), .int .i64 (j : Int)] w fun e w' => e = .returned (.tuple #[]) ∧ Hr w' B g (.slice (some ⟨x, 0, none⟩) r cap) r (sw o i j) ∧ Bw.But x w w' := by
  have hi : i < r := by omega
  obtain ⟨x0, x1, x2⟩ := h.cells hi
  obtain ⟨y0, y1, y2⟩ := h.cells hj
  have hp := (h.put (o' := fun k => if k = i then o j else o k) hi (y := o j) (if_pos rfl) fun k hk => if_neg hk)
  have hq := hp.put (o' := sw o i j) hj (y := o i) sw_j fun k hk => by
    by_cases e : k = i
    · rw [e, sw_i, if_pos rfl]
    · rw [sw_o e hk, if_neg e]
  obtain ⟨x', cap', cur, e, hBx, lx, _, _, hbk⟩ := h.slice (by omega)
  obtain ⟨rfl, rfl⟩ : x = x' ∧ cap = cap' := by simpa using e
  clear e
  have hf : ∀ z, w.frozen? ⟨x, z, none⟩ = false := fun z => blk_free hbk z
  have f0 := hf (i * 3)
  have f1 := hf (i * 3 + 1)
  have f2 := hf (i * 3 + 2)
  have f3 := hf (j * 3)
  have f4 := hf (j * 3 + 1)
  have f5 := hf (j * 3 + 2)
  have i0 : (0 : Int) ≤ (i : Int) := Int.natCast_nonneg _
  have j0 : (0 : Int) ≤ (j : Int) := Int.natCast_nonneg _
  have i1 : (i : Int) < (r : Int) := by omega
  have j1 : (j : Int) < (r : Int) := by omega
  unfold put3 at hq
  have HQ := Lib.hid hq
  have hne : ¬ i * 3 = j * 3 := by omega
  clear hp hq h hf hbk hr
  generalize g (o i * 2) = a0 at *
  generalize g (o i * 2 + 1) = a1 at *
  generalize (o i : Int) = a2 at *
  generalize g (o j * 2) = b0 at *
  generalize g (o j * 2 + 1) = b1 at *
  generalize (o j : Int) = b2 at *
  go_enter Try.func120, Try.ntmps120
  have HB := Lib.hid (((((((Bw.But.refl x w).setCell (i * 3) (.int .i64 b0)).setCell (i * 3 + 1) (.int .i64 b1)).setCell (i * 3 + 2) (.int .i64 b2)).setCell (j * 3) (.int .i64 a0)).setCell (j * 3 + 1) (.int .i64 a1)).setCell (j * 3 + 2) (.int .i64 a2))
  go_region
  generalize hws : World.setCell _ _ _ = ws at HQ HB ⊢
  clear hws
  have HQd : Hid (Hr ws.drew B g (.slice (some ⟨x, 0, none⟩) r cap) r (sw o i j)) := Lib.hid ⟨HQ.out.1, HQ.out.2⟩
  have HBd : Hid (Bw.But x w ws.drew) := Lib.hid ⟨HB.out.os, HB.out.tape, HB.out.output, HB.out.size, HB.out.block⟩
  go_end0
  exact ⟨rfl, HQd.out, HBd.out⟩
end Go.Proofs.Ytgclhkiiaclkgab.Tq
