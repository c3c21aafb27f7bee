/- Five numbers of a last and a grade, joined by a function: the program's 'joined'. -/
import Derived.Test.YtaoknbhpjnileaaJhLib
namespace Go.Proofs.Ytaoknbhpjnileaa.Jo
open Go.RowKit Go.Shelf Ft Ge Qb La Ga

set_option maxRecDepth 100000 in
set_option maxHeartbeats 8000000 in
/-- The first half: both rows of five numbers. -/
theorem joined_gr (s : ByteArray) (a b r : Nat → Int) (g : Nat) (lb : Array Value) (w : World) (eg : ∀ args w, (callFunc g args).run Try.prog w = .ok (.enter g args) w)
    (hf : ∀ (k : Nat) (W : World), k < 5 → Below w.heap.size w W → Calls Try.prog g (#[.int .i64 (a k), .int .i64 (b k)] ++ lb) W fun e w' => e = .returned (.int .i64 (r k)) ∧ W = w') :
    Calls Try.prog 106 #[laV s a, fvV b, .func (.func g) #[] lb] w fun e w' => e = .returned (fvV r) ∧ Below w.heap.size w w' := by
  have HF := Lib.hid hf
  have NA := Lib.hid (fun w => num_last s a w)
  have NB := Lib.hid (fun w => num_grade b w)
  have IA : Hid (∀ (P : Nat → Value → Prop), P 0 (.int .i64 (a 0)) → P 1 (.int .i64 (a 1)) → P 2 (.int .i64 (a 2)) → P 3 (.int .i64 (a 3)) → P 4 (.int .i64 (a 4)) → ∀ j, j < 5 → P j (.int .i64 (a j))) := Lib.hid fun P h0 h1 h2 h3 h4 j hj => by
    obtain rfl | rfl | rfl | rfl | rfl : j = 0 ∨ j = 1 ∨ j = 2 ∨ j = 3 ∨ j = 4 := by omega
    all_goals assumption
  have IB : Hid (∀ (P : Nat → Value → Prop), P 0 (.int .i64 (b 0)) → P 1 (.int .i64 (b 1)) → P 2 (.int .i64 (b 2)) → P 3 (.int .i64 (b 3)) → P 4 (.int .i64 (b 4)) → ∀ j, j < 5 → P j (.int .i64 (b j))) := Lib.hid fun P h0 h1 h2 h3 h4 j hj => by
    obtain rfl | rfl | rfl | rfl | rfl : j = 0 ∨ j = 1 ∨ j = 2 ∨ j = 3 ∨ j = 4 := by omega
    all_goals assumption
  have ma := method_la (.string s) (.int .i64 (a 0)) (.int .i64 (a 1)) (.int .i64 (a 2)) (.int .i64 (a 3)) (.int .i64 (a 4))
  have mb := method_gr (.int .i64 (b 0)) (.int .i64 (b 1)) (.int .i64 (b 2)) (.int .i64 (b 3)) (.int .i64 (b 4))
  have ea : ∀ args w, (callFunc 77 args).run Try.prog w = .ok (.enter 77 args) w := enters_of Try.func77 (by kernel_rfl) rfl
  have eb : ∀ args w, (callFunc 82 args).run Try.prog w = .ok (.enter 82 args) w := enters_of Try.func82 (by kernel_rfl) rfl
  clear hf
  obtain ⟨ka, kb, kz⟩ := three w (laC s a 33) (fvC b 61) (.cells #[.int .i64 0, .int .i64 0, .int .i64 0, .int .i64 0, .int .i64 0] 100)
  have B0 := Lib.hid (below3 w (laC s a 33) (fvC b 61) (.cells #[.int .i64 0, .int .i64 0, .int .i64 0, .int .i64 0, .int .i64 0] 100))
  simp only [laV, fvV, laC, fvC] at NA NB ka kb kz B0 ⊢
  generalize hga0 : a 0 = a0, a 1 = a1, a 2 = a2, a 3 = a3, a 4 = a4, b 0 = b0, b 1 = b1, b 2 = b2, b 3 = b3, b 4 = b4 at NA NB IA IB ma mb ka kb kz B0 ⊢
  skip
  clear hga0
  have KA := Lib.hid ka
  have KB := Lib.hid kb
  have KZ := Lib.hid kz
  clear ka kb kz
  go_enter Try.func106, Try.ntmps106
  go_upto_region 3 with fail
  generalize hw2 : ((w.alloc _).alloc _).alloc _ = w2 at KA KB KZ B0 ⊢
  clear hw2
  have la := lt_of_heap KA.out
  have lb' := lt_of_heap KB.out
  have lz := lt_of_heap KZ.out
  go_cut [7, 8] (fun s6 s7 wx => ∃ g6 g7 : Nat, s6 = .pointer (some ⟨g6, 0, none⟩) ∧ s7 = .pointer (some ⟨g7, 0, none⟩) ∧ g6 ≠ g7 ∧ w2.heap.size ≤ g6 ∧ w2.heap.size ≤ g7 ∧ Below w2.heap.size w2 wx ∧
    Hid (wx.cell? ⟨g6, 0, none⟩ = some (.int .i64 a0) ∧ wx.cell? ⟨g6, 1, none⟩ = some (.int .i64 a1) ∧ wx.cell? ⟨g6, 2, none⟩ = some (.int .i64 a2) ∧ wx.cell? ⟨g6, 3, none⟩ = some (.int .i64 a3) ∧ wx.cell? ⟨g6, 4, none⟩ = some (.int .i64 a4)) ∧
    Hid (wx.cell? ⟨g7, 0, none⟩ = some (.int .i64 b0) ∧ wx.cell? ⟨g7, 1, none⟩ = some (.int .i64 b1) ∧ wx.cell? ⟨g7, 2, none⟩ = some (.int .i64 b2) ∧ wx.cell? ⟨g7, 3, none⟩ = some (.int .i64 b3) ∧ wx.cell? ⟨g7, 4, none⟩ = some (.int .i64 b4)) ∧
    Hid (∀ i, wx.frozen? ⟨g6, i, none⟩ = false))
  case first =>
    obtain ⟨x0, x1, x2, x3, x4, x5⟩ := blk6 KA.out
    obtain ⟨y0, y1, y2, y3, y4⟩ := blk5 KB.out
    go_region_held3 (fun w' => w'.cell? ⟨w.heap.size, 0, none⟩ = some (.string s) ∧ w'.cell? ⟨w.heap.size, 1, none⟩ = some (.int .i64 a0) ∧ w'.cell? ⟨w.heap.size, 2, none⟩ = some (.int .i64 a1) ∧ w'.cell? ⟨w.heap.size, 3, none⟩ = some (.int .i64 a2) ∧ w'.cell? ⟨w.heap.size, 4, none⟩ = some (.int .i64 a3) ∧ w'.cell? ⟨w.heap.size, 5, none⟩ = some (.int .i64 a4) ∧ w'.cell? ⟨w.heap.size + 1, 0, none⟩ = some (.int .i64 b0) ∧ w'.cell? ⟨w.heap.size + 1, 1, none⟩ = some (.int .i64 b1) ∧ w'.cell? ⟨w.heap.size + 1, 2, none⟩ = some (.int .i64 b2) ∧ w'.cell? ⟨w.heap.size + 1, 3, none⟩ = some (.int .i64 b3) ∧ w'.cell? ⟨w.heap.size + 1, 4, none⟩ = some (.int .i64 b4))
      (first | (refine ⟨?_, ?_, ?_, ?_, ?_, ?_, ?_, ?_, ?_, ?_, ?_⟩ <;> (refine keep_of (w2 := w2) ?_ (by omega) (by assumption); (repeat (first | exact Below.refl _ _ | refine Below.drew ?_ | refine Below.alloc ?_ (by simp <;> omega) _ | refine Below.setCell ?_ (by simp <;> omega) _)))))
      (first | (go_at_call_of 77 a0; (with_reducible refine (NA.out _).mono ?_); rintro e wn ⟨rfl, rfl⟩) | (go_at_call 82; (with_reducible refine (NB.out _).mono ?_); rintro e wn ⟨rfl, rfl⟩))
    all_goals
      go_wp2_with fail
      go_meet
      refine ⟨_, _, rfl, rfl, ?_, ?_, ?_, ?_, Lib.hid ?_, Lib.hid ?_, Lib.hid ?_⟩
      · first | omega | (simp <;> omega)
      · first | omega | (simp <;> omega)
      · first | omega | (simp <;> omega)
      · repeat (first | exact Below.refl _ _ | refine Below.drew ?_ | refine Below.alloc ?_ (by simp <;> omega) _ | refine Below.setCell ?_ (by simp <;> omega) _)
      · go_simp
      · go_simp
      · intro i; go_simp
  case rest =>
    obtain ⟨g6, g7, rfl, rfl, hne, h6, h7, hbel, hc6, hc7, hf6⟩ := hcut
    have H6 : Hid (∀ j, j < 5 → wc.cell? ⟨g6, j, none⟩ = some (.int .i64 (a j))) := Lib.hid (IA.out (fun j v => wc.cell? ⟨g6, j, none⟩ = some v) hc6.out.1 hc6.out.2.1 hc6.out.2.2.1 hc6.out.2.2.2.1 hc6.out.2.2.2.2)
    have H7 : Hid (∀ j, j < 5 → wc.cell? ⟨g7, j, none⟩ = some (.int .i64 (b j))) := Lib.hid (IB.out (fun j v => wc.cell? ⟨g7, j, none⟩ = some v) hc7.out.1 hc7.out.2.1 hc7.out.2.2.1 hc7.out.2.2.2.1 hc7.out.2.2.2.2)
    clear hc6 hc7 IA IB NA NB ma mb ea eb
    go_wp2_with fail
    go_loopw [9, 16] (fun _ n wr => ∃ k : Nat, k ≤ 5 ∧ n = .int .i64 k ∧ Below w2.heap.size w2 wr ∧ Hid (∀ j, j < 5 → wr.cell? ⟨g6, j, none⟩ = some (.int .i64 (if j < k then r j else a j))) ∧
      Hid (∀ j, j < 5 → wr.cell? ⟨g7, j, none⟩ = some (.int .i64 (b j))) ∧ Hid (∀ i, wr.frozen? ⟨g6, i, none⟩ = false)) (fun _ n _ => 5 - (intOf n).toNat)
    case atStart => exact ⟨0, by omega, rfl, hbel, Lib.hid fun j hj => by rw [if_neg (by omega)]; exact H6.out j hj, H7, hf6⟩
    case round =>
      obtain ⟨k, hk, rfl, hb', c6, c7, f6⟩ := hrel
      have HBk := Lib.hid hb'
      clear hb' hbel
      by_cases hlt : k < 5
      · have x0 : wr.cell? ⟨g6, k, none⟩ = some (.int .i64 (a k)) := by have := c6.out k hlt; rw [if_neg (by omega)] at this; exact this
        have y0 := c7.out k hlt
        have z0 := f6.out k
        have e0 : (0 : Int) ≤ (k : Int) := Int.natCast_nonneg _
        have e1 : (k : Int) < 5 := by omega
        have CJ := Lib.hid (HF.out k wr.drew hlt (B0.out.trans (HBk.out.mono B0.out.size)).drew)
        have N6 := Lib.hid (step_one hlt c6.out x0)
        have N7 := Lib.hid (step_far hne k (.int .i64 (r k)) c7.out)
        generalize a k = ak at x0 CJ
        generalize b k = bk at y0 CJ
        generalize hrk : r k = rk at CJ N6 N7
        go_wp2_with fail
        go_region_with (go_at_fn g; refine CJ.out.mono ?_; rintro e w' ⟨rfl, rfl⟩)
        all_goals
          have NF : Hid (∀ i, ((wr.setCell ⟨g6, k, none⟩ (.int .i64 rk)).drew).frozen? ⟨g6, i, none⟩ = false) := Lib.hid fun i => (World.frozen?_setCell _ _ _ _).trans (f6.out i)
          have NBk := Lib.hid ((HBk.out.setCell (p := ⟨g6, k, none⟩) h6 (.int .i64 rk)).drew)
          clear x0 y0 z0
          try go_wp2_with fail
          go_roundw
          case rel => exact ⟨k + 1, by omega, by go_num, NBk.out, N6, N7, NF⟩
          case measure => simp [intOf]; omega
      · obtain rfl : k = 5 := by omega
        have d : ∀ j, j < 5 → wr.cell? ⟨g6, j, none⟩ = some (.int .i64 (r j)) := fun j hj => by have := c6.out j hj; rw [if_pos hj] at this; exact this
        have d0 := d 0 (by omega)
        have d1 := d 1 (by omega)
        have d2 := d 2 (by omega)
        have d3 := d 3 (by omega)
        have d4 := d 4 (by omega)
        have KZ5 := Lib.hid (blk_keep HBk.out KZ.out)
        have HB5 := Lib.hid (B0.out.trans (HBk.out.mono B0.out.size))
        obtain ⟨z0, z1, z2, z3, z4⟩ := blk5 KZ5.out
        have hfr := blk_free KZ5.out
        clear d
        go_wp2_with fail
        exact bodyPost_ret (v := .agg #[.int .i64 (r 0), .int .i64 (r 1), .int .i64 (r 2), .int .i64 (r 3), .int .i64 (r 4)]) (by simp [results, Try.results106, go_sem, z0, z1, z2, z3, z4]) rfl
          ⟨rfl, by repeat (first | exact HB5.out | refine Below.drew ?_ | refine Below.setCell ?_ (by simp <;> omega) _)⟩
end Go.Proofs.Ytaoknbhpjnileaa.Jo
