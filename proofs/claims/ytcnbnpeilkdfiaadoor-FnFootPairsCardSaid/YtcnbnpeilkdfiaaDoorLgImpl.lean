/- The program's LargerFoot. -/
import Derived.Test.YtcnbnpeilkdfiaaDoorLdLib
import Derived.Deep.DeepCutAuto
import Derived.Deep.DeepMust
namespace Go.Proofs.YtcnbnpeilkdfiaaDoor.Lg
open Go.RowKit Ft Fs Ld

theorem keep_of {w2 W : World} {g o : Nat} {v : Value} (hb : Below w2.heap.size w2 W) (hg : g < w2.heap.size) (h : w2.cell? ⟨g, o, none⟩ = some v) : W.cell? ⟨g, o, none⟩ = some v := (hb.cell (p := ⟨g, o, none⟩) hg).trans h
/-- The measures, with the very world that the call leaves. -/
theorem measures_exact (l b i h : Int) (w : World) : Calls Tryd.prog 31 #[.agg #[.int .i64 l, .int .i64 b, .int .i64 i, .int .i64 h]] w fun e w' => e = .returned (.agg #[.int .i64 l, .int .i64 b, .int .i64 i, .int .i64 h]) ∧ (w.alloc (.cells #[.int .i64 l, .int .i64 b, .int .i64 i, .int .i64 h] 25)).alloc (.cells #[.int .i64 l, .int .i64 b, .int .i64 i, .int .i64 h] 59) = w' := by
  go_enter Tryd.func31, Tryd.ntmps31
  go_wp2
  exact bodyPost_ret (v := .agg #[.int .i64 l, .int .i64 b, .int .i64 i, .int .i64 h]) (by simp [results, Tryd.results31, go_sem]) rfl ⟨rfl, rfl⟩

theorem step_max {a b : Nat → Int} {wr : World} {g k : Nat} (hlt : k < 4) (h : ∀ j, j < 4 → wr.cell? ⟨g, j, none⟩ = some (.int .i64 (if j < k then max (a j) (b j) else a j))) (x0 : wr.cell? ⟨g, k, none⟩ = some (.int .i64 (a k))) :
    ∀ j, j < 4 → ((wr.setCell ⟨g, k, none⟩ (.int .i64 (max (a k) (b k)))).drew).cell? ⟨g, j, none⟩ = some (.int .i64 (if j < k + 1 then max (a j) (b j) else a j)) := by
  intro j hj
  by_cases e : j = k
  · subst e
    rw [if_pos (by omega)]
    exact World.cell?_setCell_same _ _ _ x0
  · have h' := h j hj
    have e' : (if j < k + 1 then max (a j) (b j) else a j) = (if j < k then max (a j) (b j) else a j) := by
      by_cases hjk : j < k
      · rw [if_pos hjk, if_pos (by omega)]
      · rw [if_neg hjk, if_neg (by omega)]
    rw [e', ← h']
    exact World.cell?_setCell_other _ _ _ _ (show (⟨g, k, none⟩ : Addr) ≠ ⟨g, j, none⟩ from fun q => e (Addr.mk.inj q).2.1.symm)
theorem step_far {f : Nat → Int} {wr : World} {g g' : Nat} (hne : g ≠ g') (k : Nat) (u : Value) (h : ∀ j, j < 4 → wr.cell? ⟨g', j, none⟩ = some (.int .i64 (f j))) :
    ∀ j, j < 4 → ((wr.setCell ⟨g, k, none⟩ u).drew).cell? ⟨g', j, none⟩ = some (.int .i64 (f j)) := fun j hj =>
  (World.cell?_setCell_other _ _ _ _ (show (⟨g, k, none⟩ : Addr) ≠ ⟨g', j, none⟩ from fun q => hne (Addr.mk.inj q).1)).trans (h j hj)

set_option maxRecDepth 100000 in
set_option maxHeartbeats 8000000 in
theorem impl_yes (a b : Nat → Int) (ha : ftB (a 0) (a 1) (a 2) (a 3) = true) (hb : ftB (b 0) (b 1) (b 2) (b 3) = true) (w : World) :
    Calls Tryd.prog 7 #[.agg #[.int .i64 (a 0), .int .i64 (a 1), .int .i64 (a 2), .int .i64 (a 3)], .agg #[.int .i64 (b 0), .int .i64 (b 1), .int .i64 (b 2), .int .i64 (b 3)]] w
      fun e w' => e = .returned (.tuple #[.agg #[.int .i64 (max (a 0) (b 0)), .int .i64 (max (a 1) (b 1)), .int .i64 (max (a 2) (b 2)), .int .i64 (max (a 3) (b 3))], .int .i64 0]) ∧ Below w.heap.size w w' := by
  have CA := Lib.hid (fun w => (impl_valid (a 0) (a 1) (a 2) (a 3) w).mono fun _ _ h => by rw [ha] at h; exact h)
  have CB := Lib.hid (fun w => (impl_valid (b 0) (b 1) (b 2) (b 3) w).mono fun _ _ h => by rw [hb] at h; exact h)
  clear ha hb
  obtain ⟨ka, kb, kz⟩ := three w (.cells #[.int .i64 (a 0), .int .i64 (a 1), .int .i64 (a 2), .int .i64 (a 3)] 25) (.cells #[.int .i64 (b 0), .int .i64 (b 1), .int .i64 (b 2), .int .i64 (b 3)] 25) (.cells #[.int .i64 0, .int .i64 0, .int .i64 0, .int .i64 0] 25)
  have KA := Lib.hid ka
  have KB := Lib.hid kb
  have KZ := Lib.hid kz
  clear ka kb kz
  go_enter Tryd.func7, Tryd.ntmps7
  go_wp2_with fail
  refine (CA.out _).mono ?_
  rintro e w1 ⟨rfl, b1⟩
  have HB1 := Lib.hid (below_then (below3 w _ _ _) b1)
  have KA1 := Lib.hid (blk_keep b1 KA.out)
  have KB1 := Lib.hid (blk_keep b1 KB.out)
  have KZ1 := Lib.hid (blk_keep b1 KZ.out)
  clear b1 KA KB KZ
  obtain ⟨y0, y1, y2, y3⟩ := blk4 KB1.out
  go_wp2_with fail
  refine (CB.out _).mono ?_
  rintro e w2 ⟨rfl, b2⟩
  have HB2 := Lib.hid (below_then HB1.out b2)
  have KA2 := Lib.hid (blk_keep b2 KA1.out)
  have KB2 := Lib.hid (blk_keep b2 KB1.out)
  have KZ2 := Lib.hid (blk_keep b2 KZ1.out)
  have la := lt_of_heap KA2.out
  have lb := lt_of_heap KB2.out
  have lz := lt_of_heap KZ2.out
  clear b2 y0 y1 y2 y3 HB1 KA1 KB1 KZ1
  go_upto_region 3 with fail
  go_cut [6, 7] (fun s6 s7 wx => ∃ g6 g7 : Nat, s6 = .pointer (some ⟨g6, 0, none⟩) ∧ s7 = .pointer (some ⟨g7, 0, none⟩) ∧ g6 ≠ g7 ∧ w2.heap.size ≤ g6 ∧ w2.heap.size ≤ g7 ∧ Below w2.heap.size w2 wx ∧
    Hid (wx.cell? ⟨g6, 0, none⟩ = some (.int .i64 (a 0)) ∧ wx.cell? ⟨g6, 1, none⟩ = some (.int .i64 (a 1)) ∧ wx.cell? ⟨g6, 2, none⟩ = some (.int .i64 (a 2)) ∧ wx.cell? ⟨g6, 3, none⟩ = some (.int .i64 (a 3))) ∧
    Hid (wx.cell? ⟨g7, 0, none⟩ = some (.int .i64 (b 0)) ∧ wx.cell? ⟨g7, 1, none⟩ = some (.int .i64 (b 1)) ∧ wx.cell? ⟨g7, 2, none⟩ = some (.int .i64 (b 2)) ∧ wx.cell? ⟨g7, 3, none⟩ = some (.int .i64 (b 3))) ∧
    Hid (∀ i, wx.frozen? ⟨g6, i, none⟩ = false))
  case first =>
    obtain ⟨x0, x1, x2, x3⟩ := blk4 KA2.out
    obtain ⟨y0, y1, y2, y3⟩ := blk4 KB2.out
    go_region_held3 (fun w' => w'.cell? ⟨w.heap.size, 0, none⟩ = some (.int .i64 (a 0)) ∧ w'.cell? ⟨w.heap.size, 1, none⟩ = some (.int .i64 (a 1)) ∧ w'.cell? ⟨w.heap.size, 2, none⟩ = some (.int .i64 (a 2)) ∧ w'.cell? ⟨w.heap.size, 3, none⟩ = some (.int .i64 (a 3)) ∧
        w'.cell? ⟨w.heap.size + 1, 0, none⟩ = some (.int .i64 (b 0)) ∧ w'.cell? ⟨w.heap.size + 1, 1, none⟩ = some (.int .i64 (b 1)) ∧ w'.cell? ⟨w.heap.size + 1, 2, none⟩ = some (.int .i64 (b 2)) ∧ w'.cell? ⟨w.heap.size + 1, 3, none⟩ = some (.int .i64 (b 3)))
      (first | (refine ⟨?_, ?_, ?_, ?_, ?_, ?_, ?_, ?_⟩ <;> (refine keep_of (w2 := w2) ?_ (by omega) (by assumption); (repeat (first | exact Below.refl _ _ | refine Below.drew ?_ | refine Below.alloc ?_ (by simp <;> omega) _ | refine Below.setCell ?_ (by simp <;> omega) _)))))
      ((go_at_call 31; refine (measures_exact _ _ _ _ _).mono ?_; rintro e wn ⟨rfl, rfl⟩))
    all_goals
      go_wp2_with fail
      go_meet
      refine ⟨_, _, rfl, rfl, ?_, ?_, ?_, ?_, Lib.hid ?_, Lib.hid ?_, Lib.hid ?_⟩
      · first | omega | (simp <;> omega)
      · first | omega | (simp <;> omega)
      · first | omega | (simp <;> omega)
      · repeat (first | exact Below.refl _ _ | refine Below.drew ?_ | refine Below.alloc ?_ (by simp <;> omega) _ | refine Below.setCell ?_ (by simp <;> omega) _)
      · go_simp
      · go_simp
      · intro i; go_simp
  case rest =>
    obtain ⟨g6, g7, rfl, rfl, hne, h6, h7, hbel, hc6, hc7, hf6⟩ := hcut
    have H6 : Hid (∀ j, j < 4 → wc.cell? ⟨g6, j, none⟩ = some (.int .i64 (a j))) := Lib.hid fun j hj => by
      obtain ⟨q0, q1, q2, q3⟩ := hc6.out
      obtain rfl | rfl | rfl | rfl : j = 0 ∨ j = 1 ∨ j = 2 ∨ j = 3 := by omega
      all_goals assumption
    have H7 : Hid (∀ j, j < 4 → wc.cell? ⟨g7, j, none⟩ = some (.int .i64 (b j))) := Lib.hid fun j hj => by
      obtain ⟨q0, q1, q2, q3⟩ := hc7.out
      obtain rfl | rfl | rfl | rfl : j = 0 ∨ j = 1 ∨ j = 2 ∨ j = 3 := by omega
      all_goals assumption
    clear hc6 hc7
    go_wp2_with fail
    go_loopw [8, 22] (fun _ n wr => ∃ k : Nat, k ≤ 4 ∧ n = .int .i64 k ∧ Below w2.heap.size w2 wr ∧ Hid (∀ j, j < 4 → wr.cell? ⟨g6, j, none⟩ = some (.int .i64 (if j < k then max (a j) (b j) else a j))) ∧
      Hid (∀ j, j < 4 → wr.cell? ⟨g7, j, none⟩ = some (.int .i64 (b j))) ∧ Hid (∀ i, wr.frozen? ⟨g6, i, none⟩ = false)) (fun _ n _ => 4 - (intOf n).toNat)
    case atStart => exact ⟨0, by omega, rfl, hbel, Lib.hid fun j hj => by rw [if_neg (by omega)]; exact H6.out j hj, H7, hf6⟩
    case round =>
      obtain ⟨k, hk, rfl, hb', c6, c7, f6⟩ := hrel
      have HBk := Lib.hid hb'
      clear hb' hbel
      by_cases hlt : k < 4
      · have x0 : wr.cell? ⟨g6, k, none⟩ = some (.int .i64 (a k)) := by have := c6.out k hlt; rw [if_neg (by omega)] at this; exact this
        have y0 := c7.out k hlt
        have z0 := f6.out k
        have e0 : (0 : Int) ≤ (k : Int) := Int.natCast_nonneg _
        have e1 : (k : Int) < 4 := by omega
        go_wp2_with fail
        go_region
        have hmx : (if a k < b k then b k else a k) = max (a k) (b k) := by split <;> omega
        rw [hmx]
        have N6 := Lib.hid (step_max hlt c6.out x0)
        have N7 := Lib.hid (step_far hne k (.int .i64 (max (a k) (b k))) c7.out)
        have NF : Hid (∀ i, ((wr.setCell ⟨g6, k, none⟩ (.int .i64 (max (a k) (b k)))).drew).frozen? ⟨g6, i, none⟩ = false) := Lib.hid fun i => (World.frozen?_setCell _ _ _ _).trans (f6.out i)
        have NB := Lib.hid ((HBk.out.setCell (p := ⟨g6, k, none⟩) h6 (.int .i64 (max (a k) (b k)))).drew)
        clear hmx x0 y0 z0
        generalize (wr.setCell ⟨g6, k, none⟩ (.int .i64 (max (a k) (b k)))).drew = wn at N6 N7 NF NB ⊢
        generalize max (a k) (b k) = m
        go_wp2_with fail
        go_roundw
        case rel => exact ⟨k + 1, by omega, by go_num, NB.out, N6, N7, NF⟩
        case measure => simp [intOf]; omega
      · obtain rfl : k = 4 := by omega
        have d : ∀ j, j < 4 → wr.cell? ⟨g6, j, none⟩ = some (.int .i64 (max (a j) (b j))) := fun j hj => by have := c6.out j hj; rw [if_pos hj] at this; exact this
        have d0 := d 0 (by omega)
        have d1 := d 1 (by omega)
        have d2 := d 2 (by omega)
        have d3 := d 3 (by omega)
        have KZ5 := Lib.hid (blk_keep HBk.out KZ2.out)
        have HB5 := Lib.hid (below_then HB2.out HBk.out)
        clear d
        go_wp2_with fail
        refine (back_any _ _ _ _ _).mono ?_
        rintro e w6 ⟨rfl, b6⟩
        have KZ6 := Lib.hid (blk_keep b6 KZ5.out)
        have HB6 := Lib.hid (below_then HB5.out b6)
        obtain ⟨z0, z1, z2, z3⟩ := blk4 KZ6.out
        have hfr := blk_free KZ6.out
        clear b6 d0 d1 d2 d3
        go_wp2_with fail
        exact bodyPost_ret (v := .tuple #[.agg #[.int .i64 (max (a 0) (b 0)), .int .i64 (max (a 1) (b 1)), .int .i64 (max (a 2) (b 2)), .int .i64 (max (a 3) (b 3))], .int .i64 0]) (by simp [results, Tryd.results7, go_sem, z0, z1, z2, z3]) rfl
          ⟨rfl, (((HB6.out.setCell (by simp; omega) _).setCell (by simp; omega) _).setCell (by simp; omega) _).setCell (by simp; omega) _⟩

/-- The two other ways of the program's LargerFoot. -/
theorem impl_no (a b : Nat → Int) (hab : ftB (a 0) (a 1) (a 2) (a 3) = false ∨ ftB (b 0) (b 1) (b 2) (b 3) = false) (w : World) :
    Calls Tryd.prog 7 #[.agg #[.int .i64 (a 0), .int .i64 (a 1), .int .i64 (a 2), .int .i64 (a 3)], .agg #[.int .i64 (b 0), .int .i64 (b 1), .int .i64 (b 2), .int .i64 (b 3)]] w
      fun e w' => e = .returned (.tuple #[.agg #[.int .i64 0, .int .i64 0, .int .i64 0, .int .i64 0], .int .i64 1]) ∧ Below w.heap.size w w' := by
  obtain ⟨ka, kb, kz⟩ := three w (.cells #[.int .i64 (a 0), .int .i64 (a 1), .int .i64 (a 2), .int .i64 (a 3)] 25) (.cells #[.int .i64 (b 0), .int .i64 (b 1), .int .i64 (b 2), .int .i64 (b 3)] 25) (.cells #[.int .i64 0, .int .i64 0, .int .i64 0, .int .i64 0] 25)
  have KB := Lib.hid kb
  have KZ := Lib.hid kz
  clear ka kb kz
  cases ha : ftB (a 0) (a 1) (a 2) (a 3)
  · have CA := Lib.hid (fun w => (impl_valid (a 0) (a 1) (a 2) (a 3) w).mono fun _ _ h => by rw [ha] at h; exact h)
    clear ha hab
    go_enter Tryd.func7, Tryd.ntmps7
    go_wp2_with fail
    refine (CA.out _).mono ?_
    rintro e w1 ⟨rfl, b1⟩
    have HB1 := Lib.hid (below_then (below3 w _ _ _) b1)
    have KZ1 := Lib.hid (blk_keep b1 KZ.out)
    have hsz := HB1.out.size
    clear b1
    obtain ⟨z0, z1, z2, z3⟩ := blk4 KZ1.out
    have hfr := blk_free KZ1.out
    go_wp2_with fail
    exact bodyPost_ret (v := .tuple #[.agg #[.int .i64 0, .int .i64 0, .int .i64 0, .int .i64 0], .int .i64 1]) (by simp [results, Tryd.results7, go_sem, z0, z1, z2, z3]) rfl
      ⟨rfl, (((HB1.out.setCell (by simp; omega) _).setCell (by simp; omega) _).setCell (by simp; omega) _).setCell (by simp; omega) _⟩
  · have hb : ftB (b 0) (b 1) (b 2) (b 3) = false := by rw [ha] at hab; simpa using hab
    have CA := Lib.hid (fun w => (impl_valid (a 0) (a 1) (a 2) (a 3) w).mono fun _ _ h => by rw [ha] at h; exact h)
    have CB := Lib.hid (fun w => (impl_valid (b 0) (b 1) (b 2) (b 3) w).mono fun _ _ h => by rw [hb] at h; exact h)
    clear ha hb hab
    go_enter Tryd.func7, Tryd.ntmps7
    go_wp2_with fail
    refine (CA.out _).mono ?_
    rintro e w1 ⟨rfl, b1⟩
    have HB1 := Lib.hid (below_then (below3 w _ _ _) b1)
    have KB1 := Lib.hid (blk_keep b1 KB.out)
    have KZ1 := Lib.hid (blk_keep b1 KZ.out)
    clear b1
    obtain ⟨y0, y1, y2, y3⟩ := blk4 KB1.out
    go_wp2_with fail
    refine (CB.out _).mono ?_
    rintro e w2 ⟨rfl, b2⟩
    have HB2 := Lib.hid (below_then HB1.out b2)
    have KZ2 := Lib.hid (blk_keep b2 KZ1.out)
    have hsz := HB2.out.size
    clear b2 y0 y1 y2 y3
    obtain ⟨z0, z1, z2, z3⟩ := blk4 KZ2.out
    have hfr := blk_free KZ2.out
    go_wp2_with fail
    exact bodyPost_ret (v := .tuple #[.agg #[.int .i64 0, .int .i64 0, .int .i64 0, .int .i64 0], .int .i64 1]) (by simp [results, Tryd.results7, go_sem, z0, z1, z2, z3]) rfl
      ⟨rfl, (((HB2.out.setCell (by simp; omega) _).setCell (by simp; omega) _).setCell (by simp; omega) _).setCell (by simp; omega) _⟩
end Go.Proofs.YtcnbnpeilkdfiaaDoor.Lg
