/- DifferenceOf: the program's. -/
import Derived.Test.YtcnbnpeilkdfiaaDoorDfLib
namespace Go.Proofs.YtcnbnpeilkdfiaaDoor.Df
open Go.RowKit Ft Fs Ld Lg Is

theorem step_put {d f : Nat → Int} {wr : World} {g k : Nat} {u : Value} (h : ∀ j, j < 4 → wr.cell? ⟨g, j, none⟩ = some (.int .i64 (if j < k then d j else f j))) (x0 : wr.cell? ⟨g, k, none⟩ = some u) :
    ∀ j, j < 4 → ((wr.setCell ⟨g, k, none⟩ (.int .i64 (d k))).drew).cell? ⟨g, j, none⟩ = some (.int .i64 (if j < k + 1 then d j else f j)) := by
  intro j hj
  by_cases e : j = k
  · subst e
    rw [if_pos (by omega)]
    exact World.cell?_setCell_same _ _ _ x0
  · have h' := h j hj
    have e' : (if j < k + 1 then d j else f j) = (if j < k then d j else f j) := by
      by_cases hjk : j < k
      · rw [if_pos hjk, if_pos (by omega)]
      · rw [if_neg hjk, if_neg (by omega)]
    rw [e', ← h']
    exact World.cell?_setCell_other _ _ _ _ (show (⟨g, k, none⟩ : Addr) ≠ ⟨g, j, none⟩ from fun q => e (Addr.mk.inj q).2.1.symm)

set_option maxRecDepth 100000 in
set_option maxHeartbeats 8000000 in
theorem impl_diff_yes (a b : Nat → Int) (ha : ftB (a 0) (a 1) (a 2) (a 3) = true) (hb : ftB (b 0) (b 1) (b 2) (b 3) = true) (w : World) :
    Calls Tryd.prog 8 #[.agg #[.int .i64 (a 0), .int .i64 (a 1), .int .i64 (a 2), .int .i64 (a 3)], .agg #[.int .i64 (b 0), .int .i64 (b 1), .int .i64 (b 2), .int .i64 (b 3)]] w (DiffAt (fun j => b j - a j) w) := by
  have HD := Lib.hid (diff_wrap ha hb)
  have CA := Lib.hid (fun w => (impl_valid (a 0) (a 1) (a 2) (a 3) w).mono fun _ _ h => by rw [ha] at h; exact h)
  have CB := Lib.hid (fun w => (impl_valid (b 0) (b 1) (b 2) (b 3) w).mono fun _ _ h => by rw [hb] at h; exact h)
  clear ha hb
  obtain ⟨ka, kb⟩ := two w (.cells #[.int .i64 (a 0), .int .i64 (a 1), .int .i64 (a 2), .int .i64 (a 3)] 25) (.cells #[.int .i64 (b 0), .int .i64 (b 1), .int .i64 (b 2), .int .i64 (b 3)] 25)
  have KA := Lib.hid ka
  have KB := Lib.hid kb
  clear ka kb
  go_enter Tryd.func8, Tryd.ntmps8
  go_wp2_with fail
  refine (CA.out _).mono ?_
  rintro e w1 ⟨rfl, b1⟩
  have HB1 := Lib.hid (below_then (below2 w _ _) b1)
  have KA1 := Lib.hid (blk_keep b1 KA.out)
  have KB1 := Lib.hid (blk_keep b1 KB.out)
  clear b1 KA KB
  obtain ⟨y0, y1, y2, y3⟩ := blk4 KB1.out
  go_wp2_with fail
  refine (CB.out _).mono ?_
  rintro e w2 ⟨rfl, b2⟩
  have HB2 := Lib.hid (below_then HB1.out b2)
  have KA2 := Lib.hid (blk_keep b2 KA1.out)
  have KB2 := Lib.hid (blk_keep b2 KB1.out)
  have la := lt_of_heap KA2.out
  have lb := lt_of_heap KB2.out
  clear b2 y0 y1 y2 y3 HB1 KA1 KB1
  go_upto_region 3 with fail
  go_cut [6, 7] (fun s6 s7 wx => ∃ g6 g7 : Nat, s6 = .pointer (some ⟨g6, 0, none⟩) ∧ s7 = .pointer (some ⟨g7, 0, none⟩) ∧ g6 ≠ g7 ∧ w2.heap.size ≤ g6 ∧ w2.heap.size ≤ g7 ∧ Below w2.heap.size w2 wx ∧
    Hid (wx.cell? ⟨g6, 0, none⟩ = some (.int .i64 (a 0)) ∧ wx.cell? ⟨g6, 1, none⟩ = some (.int .i64 (a 1)) ∧ wx.cell? ⟨g6, 2, none⟩ = some (.int .i64 (a 2)) ∧ wx.cell? ⟨g6, 3, none⟩ = some (.int .i64 (a 3))) ∧
    Hid (wx.cell? ⟨g7, 0, none⟩ = some (.int .i64 (b 0)) ∧ wx.cell? ⟨g7, 1, none⟩ = some (.int .i64 (b 1)) ∧ wx.cell? ⟨g7, 2, none⟩ = some (.int .i64 (b 2)) ∧ wx.cell? ⟨g7, 3, none⟩ = some (.int .i64 (b 3))) ∧
    Hid (∀ i, wx.frozen? ⟨g6, i, none⟩ = false))
  case first =>
    obtain ⟨x0, x1, x2, x3⟩ := blk4 KA2.out
    obtain ⟨y0, y1, y2, y3⟩ := blk4 KB2.out
    go_region_held3 (fun w' => w'.cell? ⟨w.heap.size, 0, none⟩ = some (.int .i64 (a 0)) ∧ w'.cell? ⟨w.heap.size, 1, none⟩ = some (.int .i64 (a 1)) ∧ w'.cell? ⟨w.heap.size, 2, none⟩ = some (.int .i64 (a 2)) ∧ w'.cell? ⟨w.heap.size, 3, none⟩ = some (.int .i64 (a 3)) ∧
        w'.cell? ⟨w.heap.size + 1, 0, none⟩ = some (.int .i64 (b 0)) ∧ w'.cell? ⟨w.heap.size + 1, 1, none⟩ = some (.int .i64 (b 1)) ∧ w'.cell? ⟨w.heap.size + 1, 2, none⟩ = some (.int .i64 (b 2)) ∧ w'.cell? ⟨w.heap.size + 1, 3, none⟩ = some (.int .i64 (b 3)))
      (first | (refine ⟨?_, ?_, ?_, ?_, ?_, ?_, ?_, ?_⟩ <;> (refine keep_of (w2 := w2) ?_ (by omega) (by assumption); (repeat (first | exact Below.refl _ _ | refine Below.drew ?_ | refine Below.alloc ?_ (by simp <;> omega) _ | refine Below.setCell ?_ (by simp <;> omega) _)))))
      ((go_at_call 31; refine (measures_exact _ _ _ _ _).mono ?_; rintro e wn ⟨rfl, rfl⟩))
    all_goals
      go_wp2_with fail
      go_meet
      refine ⟨_, _, rfl, rfl, ?_, ?_, ?_, ?_, Lib.hid ?_, Lib.hid ?_, Lib.hid ?_⟩
      · first | omega | (simp <;> omega)
      · first | omega | (simp <;> omega)
      · first | omega | (simp <;> omega)
      · repeat (first | exact Below.refl _ _ | refine Below.drew ?_ | refine Below.alloc ?_ (by simp <;> omega) _ | refine Below.setCell ?_ (by simp <;> omega) _)
      · go_simp
      · go_simp
      · intro i; go_simp
  case rest =>
    obtain ⟨g6, g7, rfl, rfl, hne, h6, h7, hbel, hc6, hc7, hf6⟩ := hcut
    have H6 : Hid (∀ j, j < 4 → wc.cell? ⟨g6, j, none⟩ = some (.int .i64 (a j))) := Lib.hid fun j hj => by
      obtain ⟨q0, q1, q2, q3⟩ := hc6.out
      obtain rfl | rfl | rfl | rfl : j = 0 ∨ j = 1 ∨ j = 2 ∨ j = 3 := by omega
      all_goals assumption
    have H7 : Hid (∀ j, j < 4 → wc.cell? ⟨g7, j, none⟩ = some (.int .i64 (b j))) := Lib.hid fun j hj => by
      obtain ⟨q0, q1, q2, q3⟩ := hc7.out
      obtain rfl | rfl | rfl | rfl : j = 0 ∨ j = 1 ∨ j = 2 ∨ j = 3 := by omega
      all_goals assumption
    clear hc6 hc7
    have hmk : ∀ w : World, (Instr.makeSlice 29 (.int .i64 4) (.int .i64 4)).run Tryd.prog w = .ok (.slice (some ⟨w.heap.size, 0, none⟩) 4 4) (w.alloc (.cells #[.int .i64 0, .int .i64 0, .int .i64 0, .int .i64 0] 2)) := fun _ => by kernel_rfl
    go_wp2_with fail
    clear hmk
    have hz := hbel.size
    have l6 : g6 < wc.heap.size := by have := World.block_lt_of_cell? wc _ (H6.out 0 (by omega)); exact this
    have l7 : g7 < wc.heap.size := by have := World.block_lt_of_cell? wc _ (H7.out 0 (by omega)); exact this
    have HBc := Lib.hid hbel
    have HL : Hid (Below wc.heap.size wc (wc.alloc (.cells #[.int .i64 0, .int .i64 0, .int .i64 0, .int .i64 0] 2)) ∧ (∀ j, j < 4 → (wc.alloc (.cells #[.int .i64 0, .int .i64 0, .int .i64 0, .int .i64 0] 2)).cell? ⟨wc.heap.size, j, none⟩ = some (.int .i64 0)) ∧ (∀ i, (wc.alloc (.cells #[.int .i64 0, .int .i64 0, .int .i64 0, .int .i64 0] 2)).frozen? ⟨wc.heap.size, i, none⟩ = false) ∧ wc.heap.size < (wc.alloc (.cells #[.int .i64 0, .int .i64 0, .int .i64 0, .int .i64 0] 2)).heap.size) := Lib.hid ⟨below_box _ _, fun j hj => by
      rw [cell_of_row _ _ _ _ _ (0, 0) (heap_alloc_new _ _)]
      obtain rfl | rfl | rfl | rfl : j = 0 ∨ j = 1 ∨ j = 2 ∨ j = 3 := by omega
      all_goals rfl, fun i => by simp, by simp⟩
    generalize wc.alloc (.cells #[.int .i64 0, .int .i64 0, .int .i64 0, .int .i64 0] 2) = wl at HL ⊢
    clear hbel hf6
    go_loopw [9, 23] (fun _ n wr => ∃ k : Nat, k ≤ 4 ∧ n = .int .i64 k ∧ Below wc.heap.size wc wr ∧ wc.heap.size < wr.heap.size ∧ Hid (∀ j, j < 4 → wr.cell? ⟨wc.heap.size, j, none⟩ = some (.int .i64 (if j < k then b j - a j else 0))) ∧
      Hid (∀ i, wr.frozen? ⟨wc.heap.size, i, none⟩ = false)) (fun _ n _ => 4 - (intOf n).toNat)
    case atStart => exact ⟨0, by omega, rfl, HL.out.1, HL.out.2.2.2, Lib.hid fun j hj => by rw [if_neg (by omega)]; exact HL.out.2.1 j hj, Lib.hid HL.out.2.2.1⟩
    case round =>
      obtain ⟨k, hk, rfl, hb', hs', cd, fd⟩ := hrel
      have HBk := Lib.hid hb'
      by_cases hlt : k < 4
      · have d0 : wr.cell? ⟨wc.heap.size, k, none⟩ = some (.int .i64 0) := by have := cd.out k hlt; rw [if_neg (by omega)] at this; exact this
        have x0 := (hb'.cell (p := ⟨g6, k, none⟩) l6).trans (H6.out k hlt)
        have y0 := (hb'.cell (p := ⟨g7, k, none⟩) l7).trans (H7.out k hlt)
        have z0 := fd.out k
        have hwr := HD.out k hlt
        have e0 : (0 : Int) ≤ (k : Int) := Int.natCast_nonneg _
        have e1 : (k : Int) < 4 := by omega
        clear hb'
        go_wp2_with fail
        go_region
        have N6 := Lib.hid (step_put (d := fun j => b j - a j) (f := fun _ => 0) cd.out d0)
        have NF : Hid (∀ i, ((wr.setCell ⟨wc.heap.size, k, none⟩ (.int .i64 (b k - a k))).drew).frozen? ⟨wc.heap.size, i, none⟩ = false) := Lib.hid fun i => (World.frozen?_setCell _ _ _ _).trans (fd.out i)
        have NB := Lib.hid ((HBk.out.setCell (p := ⟨wc.heap.size, k, none⟩) (Nat.le_refl _) (.int .i64 (b k - a k))).drew)
        have NS : wc.heap.size < ((wr.setCell ⟨wc.heap.size, k, none⟩ (.int .i64 (b k - a k))).drew).heap.size := by simpa [World.drew] using hs'
        clear d0 x0 y0 z0 hwr
        generalize (wr.setCell ⟨wc.heap.size, k, none⟩ (.int .i64 (b k - a k))).drew = wn at N6 NF NB NS ⊢
        generalize b k - a k = m
        go_wp2_with fail
        go_roundw
        case rel => exact ⟨k + 1, by omega, by go_num, NB.out, NS, N6, NF⟩
        case measure => simp [intOf]; omega
      · obtain rfl : k = 4 := by omega
        have hfin : DiffAt (fun j => b j - a j) w (.returned (.tuple #[.slice (some ⟨wc.heap.size, 0, none⟩) 4 4, .int .i64 0])) wr :=
          ⟨wc.heap.size, 4, rfl, Lib.hid fun _ => ⟨wc.heap.size, 0, rfl, by have := HB2.out.size; omega, hs', fun j hj => by rw [Nat.zero_add]; have := cd.out j hj; rw [if_pos hj] at this; exact this, fd.out⟩, below_then (below_then HB2.out HBc.out) hb'⟩
        have HF := Lib.hid hfin
        clear hfin hb'
        go_wp2_with fail
        go_ret2
        exact HF.out

theorem impl_diff_no (a b : Nat → Int) (hab : ftB (a 0) (a 1) (a 2) (a 3) = false ∨ ftB (b 0) (b 1) (b 2) (b 3) = false) (w : World) :
    Calls Tryd.prog 8 #[.agg #[.int .i64 (a 0), .int .i64 (a 1), .int .i64 (a 2), .int .i64 (a 3)], .agg #[.int .i64 (b 0), .int .i64 (b 1), .int .i64 (b 2), .int .i64 (b 3)]] w
      fun e w' => e = .returned (.tuple #[.slice none 0 0, .int .i64 1]) ∧ Below w.heap.size w w' := by
  obtain ⟨ka, kb⟩ := two w (.cells #[.int .i64 (a 0), .int .i64 (a 1), .int .i64 (a 2), .int .i64 (a 3)] 25) (.cells #[.int .i64 (b 0), .int .i64 (b 1), .int .i64 (b 2), .int .i64 (b 3)] 25)
  have KB := Lib.hid kb
  clear ka kb
  cases ha : ftB (a 0) (a 1) (a 2) (a 3)
  · have CA := Lib.hid (fun w => (impl_valid (a 0) (a 1) (a 2) (a 3) w).mono fun _ _ h => by rw [ha] at h; exact h)
    clear ha hab
    go_enter Tryd.func8, Tryd.ntmps8
    go_wp2_with fail
    refine (CA.out _).mono ?_
    rintro e w1 ⟨rfl, b1⟩
    have HB1 := Lib.hid (below_then (below2 w _ _) b1)
    clear b1
    go_wp2_with fail
    go_ret2
    exact ⟨rfl, HB1.out⟩
  · have hb : ftB (b 0) (b 1) (b 2) (b 3) = false := by rw [ha] at hab; simpa using hab
    have CA := Lib.hid (fun w => (impl_valid (a 0) (a 1) (a 2) (a 3) w).mono fun _ _ h => by rw [ha] at h; exact h)
    have CB := Lib.hid (fun w => (impl_valid (b 0) (b 1) (b 2) (b 3) w).mono fun _ _ h => by rw [hb] at h; exact h)
    clear ha hb hab
    go_enter Tryd.func8, Tryd.ntmps8
    go_wp2_with fail
    refine (CA.out _).mono ?_
    rintro e w1 ⟨rfl, b1⟩
    have HB1 := Lib.hid (below_then (below2 w _ _) b1)
    have KB1 := Lib.hid (blk_keep b1 KB.out)
    clear b1
    obtain ⟨y0, y1, y2, y3⟩ := blk4 KB1.out
    go_wp2_with fail
    refine (CB.out _).mono ?_
    rintro e w2 ⟨rfl, b2⟩
    have HB2 := Lib.hid (below_then HB1.out b2)
    clear b2 y0 y1 y2 y3
    go_wp2_with fail
    go_ret2
    exact ⟨rfl, HB2.out⟩
end Go.Proofs.YtcnbnpeilkdfiaaDoor.Df
