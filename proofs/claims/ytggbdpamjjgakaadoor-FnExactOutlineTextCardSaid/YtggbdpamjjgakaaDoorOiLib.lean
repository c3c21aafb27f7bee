/- The program's functions on spots and sides. -/
import Derived.Test.YtggbdpamjjgakaaDoorOqLib
namespace Go.Proofs.YtggbdpamjjgakaaDoor.Oi
set_option linter.unusedVariables false
open Go.RowKit Ft Is Ge Qb Ol Ot Opl Oq

abbrev sdV (a b : Pt) : Value := .agg #[.int .i64 a.1, .int .i64 a.2, .int .i64 b.1, .int .i64 b.2]
abbrev sdC (a b : Pt) (t : TypeId) : Obj := .cells #[.int .i64 a.1, .int .i64 a.2, .int .i64 b.1, .int .i64 b.2] t
set_option maxRecDepth 100000 in
theorem iminus (p0 p1 q0 q1 : Int) (h0 : IntKind.i64.wrap (p0 - q0) = p0 - q0) (h1 : IntKind.i64.wrap (p1 - q1) = p1 - q1) (w : World) : Calls Tryd.prog 40 #[spV p0 p1, spV q0 q1] w fun e w' => e = .returned (spV (p0 - q0) (p1 - q1)) ∧ Below w.heap.size w w' := by
  unfold spV
  go_enter Tryd.func40, Tryd.ntmps40
  go_wp2
  exact bodyPost_ret (v := .agg #[.int .i64 (p0 - q0), .int .i64 (p1 - q1)]) (by simp [results, Tryd.results40, go_sem]) rfl ⟨rfl, by repeat (first | exact Below.refl _ _ | exact below_box _ _ | refine Below.setCell ?_ (by simp <;> omega) _ | refine Below.alloc ?_ (by simp <;> omega) _)⟩
set_option maxRecDepth 100000 in
theorem icross (v0 v1 w0 w1 : Int) (h0 : IntKind.i64.wrap (v0 * w1) = v0 * w1) (h1 : IntKind.i64.wrap (w0 * v1) = w0 * v1) (h2 : IntKind.i64.wrap (v0 * w1 - w0 * v1) = v0 * w1 - w0 * v1) (w : World) : Calls Tryd.prog 39 #[spV v0 v1, spV w0 w1] w fun e w' => e = .returned (.int .i64 (v0 * w1 - w0 * v1)) ∧ Below w.heap.size w w' := by
  unfold spV
  go_enter Tryd.func39, Tryd.ntmps39
  go_wp2
  go_ret
  exact ⟨rfl, by repeat (first | exact Below.refl _ _ | exact below_box _ _ | refine Below.alloc ?_ (by simp <;> omega) _)⟩
set_option maxRecDepth 100000 in
theorem idot (v0 v1 w0 w1 : Int) (h0 : IntKind.i64.wrap (v0 * w0) = v0 * w0) (h1 : IntKind.i64.wrap (v1 * w1) = v1 * w1) (h2 : IntKind.i64.wrap (v0 * w0 + v1 * w1) = v0 * w0 + v1 * w1) (w : World) : Calls Tryd.prog 48 #[spV v0 v1, spV w0 w1] w fun e w' => e = .returned (.int .i64 (v0 * w0 + v1 * w1)) ∧ Below w.heap.size w w' := by
  unfold spV
  go_enter Tryd.func48, Tryd.ntmps48
  go_wp2
  go_ret
  exact ⟨rfl, by repeat (first | exact Below.refl _ _ | exact below_box _ _ | refine Below.alloc ?_ (by simp <;> omega) _)⟩
set_option maxRecDepth 100000 in
theorem ialong (a b : Pt) (h0 : IntKind.i64.wrap (b.1 - a.1) = b.1 - a.1) (h1 : IntKind.i64.wrap (b.2 - a.2) = b.2 - a.2) (w : World) : Calls Tryd.prog 38 #[sdV a b] w fun e w' => e = .returned (spV (b.1 - a.1) (b.2 - a.2)) ∧ Below w.heap.size w w' := by
  have M := Lib.hid fun w => iminus b.1 b.2 a.1 a.2 h0 h1 w
  obtain ⟨a0, a1⟩ := a
  obtain ⟨b0, b1⟩ := b
  simp only [sdV, spV] at M ⊢
  generalize b0 - a0 = x at M ⊢
  generalize b1 - a1 = y at M ⊢
  clear h0 h1
  go_enter Tryd.func38, Tryd.ntmps38
  go_wp2_with fail
  refine (M.out _).mono ?_
  rintro e w3 ⟨rfl, b3⟩
  obtain ⟨_, k1'⟩ := two w (.cells #[.int .i64 a0, .int .i64 a1, .int .i64 b0, .int .i64 b1] 58) (.cells #[.int .i64 0, .int .i64 0] 66)
  have k1 := blk_keep b3 k1'
  have B3 := Lib.hid (below_then (below_then (below_box w (.cells #[.int .i64 a0, .int .i64 a1, .int .i64 b0, .int .i64 b1] 58)) (below_box _ (.cells #[.int .i64 0, .int .i64 0] 66))) b3)
  obtain ⟨z0, z1⟩ := blk2 k1
  have fz := blk_free k1
  have hl := lt_of_heap k1
  clear b3 k1'
  go_wp2_with fail
  exact bodyPost_ret (v := .agg #[.int .i64 x, .int .i64 y]) (by simp [results, Tryd.results38, go_sem, z0, z1]) rfl ⟨rfl, (B3.out.setCell (by simp) _).setCell (by simp) _⟩
set_option maxRecDepth 100000 in
theorem iturn (a b p : Pt) (ha : rgB a = true) (hb : rgB b = true) (hp : rgB p = true) (w : World) : Calls Tryd.prog 30 #[sdV a b, spV p.1 p.2] w fun e w' => e = .returned (.int .i64 (cr a b p)) ∧ Below w.heap.size w w' := by
  have hcb := cr_bd ha hb hp
  obtain ⟨⟨_, _⟩, _, _⟩ := rg_spec ha
  obtain ⟨⟨_, _⟩, _, _⟩ := rg_spec hb
  obtain ⟨⟨_, _⟩, _, _⟩ := rg_spec hp
  have m1 := mul_bd4 (x := b.1 - a.1) (y := p.2 - a.2) (by omega) (by omega)
  have m2 := mul_bd4 (x := p.1 - a.1) (y := b.2 - a.2) (by omega) (by omega)
  have C1 := Lib.hid fun w => ialong a b (wr_in (by omega)) (wr_in (by omega)) w
  have C2 := Lib.hid fun w => iminus p.1 p.2 a.1 a.2 (wr_in (by omega)) (wr_in (by omega)) w
  have C3 := Lib.hid fun w => icross (b.1 - a.1) (b.2 - a.2) (p.1 - a.1) (p.2 - a.2) (wr_in (by omega)) (wr_in (by omega)) (wr_in (by omega)) w
  have e : cr a b p = (b.1 - a.1) * (p.2 - a.2) - (p.1 - a.1) * (b.2 - a.2) := by unfold cr; grind
  rw [← e] at C3
  generalize cr a b p = r at C3 ⊢
  obtain ⟨a0, a1⟩ := a
  obtain ⟨b0, b1⟩ := b
  obtain ⟨p0, p1⟩ := p
  clear ha hb hp hcb m1 m2 e
  simp only [sdV, spV] at *
  generalize b0 - a0 = u0, b1 - a1 = u1, p0 - a0 = v0, p1 - a1 = v1 at *
  obtain ⟨ka, kb⟩ := two w (.cells #[.int .i64 a0, .int .i64 a1, .int .i64 b0, .int .i64 b1] 58) (spC p0 p1 31)
  have B0 := Lib.hid (below2 w (.cells #[.int .i64 a0, .int .i64 a1, .int .i64 b0, .int .i64 b1] 58) (spC p0 p1 31))
  go_enter Tryd.func30, Tryd.ntmps30
  go_upto_region 1 with fail
  generalize (w.alloc _).alloc _ = w3 at ka kb B0 ⊢
  obtain ⟨x0, x1, x2, x3⟩ := blk4 ka
  obtain ⟨y0, y1⟩ := blk2 kb
  clear ka kb
  have x0 := bey_cell x0
  have x1 := bey_cell x1
  have x2 := bey_cell x2
  have x3 := bey_cell x3
  have y0 := bey_cell y0
  have y1 := bey_cell y1
  refine wp_region_below (by kernel_rfl) (by kernel_rfl) ?_
  repeat (go_big_quiet_step (first | (go_at_call 38; (with_reducible exact bey_of _ (C1.out _))) | (go_at_call 40; (with_reducible exact bey_of _ (C2.out _))) | (go_at_call 39; (with_reducible exact bey_of _ (C3.out _)))))
  refine wpQuiet_nil ?_
  rintro _ ⟨pq, rfl⟩
  have HQ := Lib.hid (below_then B0.out pq.h)
  generalize pq.to = wq at HQ ⊢
  clear x0 x1 x2 x3 y0 y1
  go_wp2_with fail
  go_ret
  exact ⟨rfl, HQ.out⟩
set_option maxRecDepth 100000 in
theorem isep (a b c d : Pt) (ha : rgB a = true) (hb : rgB b = true) (hc : rgB c = true) (hd : rgB d = true) (w : World) : Calls Tryd.prog 42 #[sdV a b, sdV c d] w fun e w' => e = .returned (.bool (sepI a b c d)) ∧ Below w.heap.size w w' := by
  have T1 := Lib.hid fun w => iturn a b c ha hb hc w
  have T2 := Lib.hid fun w => iturn a b d ha hb hd w
  have hm := wr_in (x := cr a b c * cr a b d) (by have := mul_bd (B := 200000000) (cr_bd ha hb hc) (cr_bd ha hb hd); omega)
  unfold sepI
  generalize cr a b c = x at T1 hm ⊢
  generalize cr a b d = y at T2 hm ⊢
  obtain ⟨a0, a1⟩ := a
  obtain ⟨b0, b1⟩ := b
  obtain ⟨c0, c1⟩ := c
  obtain ⟨d0, d1⟩ := d
  clear ha hb hc hd
  simp only [sdV, spV] at *
  obtain ⟨ka, kb⟩ := two w (.cells #[.int .i64 a0, .int .i64 a1, .int .i64 b0, .int .i64 b1] 58) (.cells #[.int .i64 c0, .int .i64 c1, .int .i64 d0, .int .i64 d1] 58)
  have B0 := Lib.hid (below2 w (.cells #[.int .i64 a0, .int .i64 a1, .int .i64 b0, .int .i64 b1] 58) (.cells #[.int .i64 c0, .int .i64 c1, .int .i64 d0, .int .i64 d1] 58))
  go_enter Tryd.func42, Tryd.ntmps42
  go_upto_region 1 with fail
  generalize (w.alloc _).alloc _ = w3 at ka kb B0 ⊢
  obtain ⟨x0, x1, x2, x3⟩ := blk4 ka
  obtain ⟨y0, y1, y2, y3⟩ := blk4 kb
  clear ka kb
  have x0 := bey_cell x0
  have x1 := bey_cell x1
  have x2 := bey_cell x2
  have x3 := bey_cell x3
  have y0 := bey_cell y0
  have y1 := bey_cell y1
  have y2 := bey_cell y2
  have y3 := bey_cell y3
  refine wp_region_below (by kernel_rfl) (by kernel_rfl) ?_
  repeat (go_big_quiet_step (first | (go_at_call 30; first | (with_reducible exact bey_of _ (T1.out _)) | (with_reducible exact bey_of _ (T2.out _)))))
  refine wpQuiet_nil ?_
  rintro _ ⟨pq, rfl⟩
  have HQ := Lib.hid (below_then B0.out pq.h)
  generalize pq.to = wq at HQ ⊢
  clear x0 x1 x2 x3 y0 y1 y2 y3
  go_wp2_with fail
  go_ret
  exact ⟨rfl, HQ.out⟩
set_option maxRecDepth 100000 in
theorem ihas (a b p : Pt) (ha : rgB a = true) (hb : rgB b = true) (hp : rgB p = true) (w : World) : Calls Tryd.prog 43 #[sdV a b, spV p.1 p.2] w fun e w' => e = .returned (.bool (hasI a b p)) ∧ Below w.heap.size w w' := by
  obtain ⟨⟨_, _⟩, _, _⟩ := rg_spec ha
  obtain ⟨⟨_, _⟩, _, _⟩ := rg_spec hb
  obtain ⟨⟨_, _⟩, _, _⟩ := rg_spec hp
  have m1 := mul_bd4 (x := a.1 - p.1) (y := b.1 - p.1) (by omega) (by omega)
  have m2 := mul_bd4 (x := a.2 - p.2) (y := b.2 - p.2) (by omega) (by omega)
  have T1 := Lib.hid fun w => iturn a b p ha hb hp w
  have M1 := Lib.hid fun w => iminus a.1 a.2 p.1 p.2 (wr_in (by omega)) (wr_in (by omega)) w
  have M2 := Lib.hid fun w => iminus b.1 b.2 p.1 p.2 (wr_in (by omega)) (wr_in (by omega)) w
  have D1 : Hid (∀ w, Calls Tryd.prog 48 #[spV (a.1 - p.1) (a.2 - p.2), spV (b.1 - p.1) (b.2 - p.2)] w fun e w' => e = .returned (.int .i64 (dotI a b p)) ∧ Below w.heap.size w w') := Lib.hid fun w => idot (a.1 - p.1) (a.2 - p.2) (b.1 - p.1) (b.2 - p.2) (wr_in (by omega)) (wr_in (by omega)) (wr_in (by omega)) w
  unfold hasI
  generalize dotI a b p = d at D1 ⊢
  generalize cr a b p = r at T1 ⊢
  obtain ⟨a0, a1⟩ := a
  obtain ⟨b0, b1⟩ := b
  obtain ⟨p0, p1⟩ := p
  clear ha hb hp m1 m2
  simp only [sdV, spV] at *
  generalize a0 - p0 = u0, a1 - p1 = u1, b0 - p0 = v0, b1 - p1 = v1 at *
  obtain ⟨ka, kb⟩ := two w (.cells #[.int .i64 a0, .int .i64 a1, .int .i64 b0, .int .i64 b1] 58) (spC p0 p1 31)
  have B0 := Lib.hid (below2 w (.cells #[.int .i64 a0, .int .i64 a1, .int .i64 b0, .int .i64 b1] 58) (spC p0 p1 31))
  have R : (r == 0) = true ∨ (r == 0) = false := by cases (r == 0) <;> simp
  rcases R with hr | hr
  all_goals
    go_enter Tryd.func43, Tryd.ntmps43
    go_upto_region 1 with fail
    generalize (w.alloc _).alloc _ = w3 at ka kb B0 ⊢
    obtain ⟨x0, x1, x2, x3⟩ := blk4 ka
    obtain ⟨y0, y1⟩ := blk2 kb
    clear ka kb
    have x0 := bey_cell x0
    have x1 := bey_cell x1
    have x2 := bey_cell x2
    have x3 := bey_cell x3
    have y0 := bey_cell y0
    have y1 := bey_cell y1
    refine wp_region_below (by kernel_rfl) (by kernel_rfl) ?_
    repeat (go_big_quiet_step (first | (go_at_call 30; (with_reducible exact bey_of _ (T1.out _))) | (go_at_call 40; first | (with_reducible exact bey_of _ (M1.out _)) | (with_reducible exact bey_of _ (M2.out _))) | (go_at_call 48; (with_reducible exact bey_of _ (D1.out _)))))
    refine wpQuiet_nil ?_
    rintro _ ⟨pq, rfl⟩
    have HQ := Lib.hid (below_then B0.out pq.h)
    generalize pq.to = wq at HQ ⊢
    clear x0 x1 x2 x3 y0 y1
    go_wp2_with fail
    go_ret
    exact ⟨by first | (rw [beq_iff_eq] at hr; simp [hr]) | (rw [beq_eq_false_iff_ne] at hr; simp [hr]), HQ.out⟩
set_option maxRecDepth 100000 in
set_option maxHeartbeats 2000000 in
theorem imeets (a b c d : Pt) (ha : rgB a = true) (hb : rgB b = true) (hc : rgB c = true) (hd : rgB d = true) (w : World) : Calls Tryd.prog 32 #[sdV a b, sdV c d] w fun e w' => e = .returned (.bool (mtS a b c d)) ∧ Below w.heap.size w w' := by
  rw [← mt_eq]
  have O1 := Lib.hid fun w => ihas a b c ha hb hc w
  have O2 := Lib.hid fun w => ihas a b d ha hb hd w
  have O3 := Lib.hid fun w => ihas c d a hc hd ha w
  have O4 := Lib.hid fun w => ihas c d b hc hd hb w
  have S1 := Lib.hid fun w => isep a b c d ha hb hc hd w
  have S2 := Lib.hid fun w => isep c d a b hc hd ha hb w
  unfold mtI
  generalize hasI a b c = o1, hasI a b d = o2, hasI c d a = o3, hasI c d b = o4 at O1 O2 O3 O4 ⊢
  generalize sepI a b c d = s1 at S1 ⊢
  generalize sepI c d a b = s2 at S2 ⊢
  obtain ⟨a0, a1⟩ := a
  obtain ⟨b0, b1⟩ := b
  obtain ⟨c0, c1⟩ := c
  obtain ⟨d0, d1⟩ := d
  clear ha hb hc hd
  simp only [sdV, spV] at *
  obtain ⟨ka, kb⟩ := two w (.cells #[.int .i64 a0, .int .i64 a1, .int .i64 b0, .int .i64 b1] 58) (.cells #[.int .i64 c0, .int .i64 c1, .int .i64 d0, .int .i64 d1] 58)
  have B0 := Lib.hid (below2 w (.cells #[.int .i64 a0, .int .i64 a1, .int .i64 b0, .int .i64 b1] 58) (.cells #[.int .i64 c0, .int .i64 c1, .int .i64 d0, .int .i64 d1] 58))
  have KA := Lib.hid ka
  have KB := Lib.hid kb
  clear ka kb
  go_enter Tryd.func32, Tryd.ntmps32
  go_upto_region 1 with fail
  generalize (w.alloc _).alloc _ = w3 at KA KB B0 ⊢
  obtain ⟨x0, x1, x2, x3⟩ := blk4 KA.out
  obtain ⟨y0, y1, y2, y3⟩ := blk4 KB.out
  go_wp2_with fail
  refine (S1.out _).mono ?_
  rintro e w4 ⟨rfl, b4⟩
  have B4 := Lib.hid (below_then B0.out b4)
  have KA4 := Lib.hid (blk_keep b4 KA.out)
  have KB4 := Lib.hid (blk_keep b4 KB.out)
  clear KA KB B0 x0 x1 x2 x3 y0 y1 y2 y3 b4
  have R : (s1 = true ∧ s2 = true) ∨ (s1 = true ∧ s2 = false) ∨ s1 = false := by cases s1 <;> cases s2 <;> simp
  have RO : o1 = true ∨ (o1 = false ∧ o2 = true) ∨ (o1 = false ∧ o2 = false ∧ o3 = true) ∨ (o1 = false ∧ o2 = false ∧ o3 = false) := by
    cases o1 <;> cases o2 <;> cases o3 <;> simp
  rcases R with ⟨rfl, rfl⟩ | ⟨rfl, rfl⟩ | rfl
  · obtain ⟨x0, x1, x2, x3⟩ := blk4 KA4.out
    obtain ⟨y0, y1, y2, y3⟩ := blk4 KB4.out
    go_wp2_with fail
    refine (S2.out _).mono ?_
    rintro e w5 ⟨rfl, b5⟩
    have B5 := Lib.hid (below_then B4.out b5)
    clear x0 x1 x2 x3 y0 y1 y2 y3 KA4 KB4 B4 b5
    go_wp2_with fail
    go_ret
    exact ⟨by simp, B5.out⟩
  · obtain ⟨x0, x1, x2, x3⟩ := blk4 KA4.out
    obtain ⟨y0, y1, y2, y3⟩ := blk4 KB4.out
    go_wp2_with fail
    refine (S2.out _).mono ?_
    rintro e w5 ⟨rfl, b5⟩
    have B5 := Lib.hid (below_then B4.out b5)
    have KA5 := Lib.hid (blk_keep b5 KA4.out)
    have KB5 := Lib.hid (blk_keep b5 KB4.out)
    clear x0 x1 x2 x3 y0 y1 y2 y3 KA4 KB4 B4 b5
    obtain ⟨x0, x1, x2, x3⟩ := blk4 KA5.out
    obtain ⟨y0, y1, y2, y3⟩ := blk4 KB5.out
    go_wp2_with fail
    refine (O1.out _).mono ?_
    rintro e w6 ⟨rfl, b6⟩
    have B6 := Lib.hid (below_then B5.out b6)
    have KA6 := Lib.hid (blk_keep b6 KA5.out)
    have KB6 := Lib.hid (blk_keep b6 KB5.out)
    clear x0 x1 x2 x3 y0 y1 y2 y3 KA5 KB5 B5 b6
    rcases RO with rfl | ⟨rfl, rfl⟩ | ⟨rfl, rfl, rfl⟩ | ⟨rfl, rfl, rfl⟩
    · go_wp2_with fail
      go_ret
      exact ⟨by simp, B6.out⟩
    all_goals
      obtain ⟨x0, x1, x2, x3⟩ := blk4 KA6.out
      obtain ⟨y0, y1, y2, y3⟩ := blk4 KB6.out
      go_wp2_with fail
      refine (O2.out _).mono ?_
      rintro e w7 ⟨rfl, b7⟩
      have B7 := Lib.hid (below_then B6.out b7)
      have KA7 := Lib.hid (blk_keep b7 KA6.out)
      have KB7 := Lib.hid (blk_keep b7 KB6.out)
      clear x0 x1 x2 x3 y0 y1 y2 y3 KA6 KB6 B6 b7
    · go_wp2_with fail
      go_ret
      exact ⟨by simp, B7.out⟩
    all_goals
      obtain ⟨x0, x1, x2, x3⟩ := blk4 KA7.out
      obtain ⟨y0, y1, y2, y3⟩ := blk4 KB7.out
      go_wp2_with fail
      refine (O3.out _).mono ?_
      rintro e w8 ⟨rfl, b8⟩
      have B8 := Lib.hid (below_then B7.out b8)
      have KA8 := Lib.hid (blk_keep b8 KA7.out)
      have KB8 := Lib.hid (blk_keep b8 KB7.out)
      clear x0 x1 x2 x3 y0 y1 y2 y3 KA7 KB7 B7 b8
    · go_wp2_with fail
      go_ret
      exact ⟨by simp, B8.out⟩
    · obtain ⟨x0, x1, x2, x3⟩ := blk4 KA8.out
      obtain ⟨y0, y1, y2, y3⟩ := blk4 KB8.out
      go_wp2_with fail
      refine (O4.out _).mono ?_
      rintro e w9 ⟨rfl, b9⟩
      have B9 := Lib.hid (below_then B8.out b9)
      clear x0 x1 x2 x3 y0 y1 y2 y3 KA8 KB8 B8 b9
      go_wp2_with fail
      go_ret
      exact ⟨by simp, B9.out⟩
  · have B5 := B4
    have KA5 := KA4
    have KB5 := KB4
    clear KA4 KB4 B4
    obtain ⟨x0, x1, x2, x3⟩ := blk4 KA5.out
    obtain ⟨y0, y1, y2, y3⟩ := blk4 KB5.out
    go_wp2_with fail
    refine (O1.out _).mono ?_
    rintro e w6 ⟨rfl, b6⟩
    have B6 := Lib.hid (below_then B5.out b6)
    have KA6 := Lib.hid (blk_keep b6 KA5.out)
    have KB6 := Lib.hid (blk_keep b6 KB5.out)
    clear x0 x1 x2 x3 y0 y1 y2 y3 KA5 KB5 B5 b6
    rcases RO with rfl | ⟨rfl, rfl⟩ | ⟨rfl, rfl, rfl⟩ | ⟨rfl, rfl, rfl⟩
    · go_wp2_with fail
      go_ret
      exact ⟨by simp, B6.out⟩
    all_goals
      obtain ⟨x0, x1, x2, x3⟩ := blk4 KA6.out
      obtain ⟨y0, y1, y2, y3⟩ := blk4 KB6.out
      go_wp2_with fail
      refine (O2.out _).mono ?_
      rintro e w7 ⟨rfl, b7⟩
      have B7 := Lib.hid (below_then B6.out b7)
      have KA7 := Lib.hid (blk_keep b7 KA6.out)
      have KB7 := Lib.hid (blk_keep b7 KB6.out)
      clear x0 x1 x2 x3 y0 y1 y2 y3 KA6 KB6 B6 b7
    · go_wp2_with fail
      go_ret
      exact ⟨by simp, B7.out⟩
    all_goals
      obtain ⟨x0, x1, x2, x3⟩ := blk4 KA7.out
      obtain ⟨y0, y1, y2, y3⟩ := blk4 KB7.out
      go_wp2_with fail
      refine (O3.out _).mono ?_
      rintro e w8 ⟨rfl, b8⟩
      have B8 := Lib.hid (below_then B7.out b8)
      have KA8 := Lib.hid (blk_keep b8 KA7.out)
      have KB8 := Lib.hid (blk_keep b8 KB7.out)
      clear x0 x1 x2 x3 y0 y1 y2 y3 KA7 KB7 B7 b8
    · go_wp2_with fail
      go_ret
      exact ⟨by simp, B8.out⟩
    · obtain ⟨x0, x1, x2, x3⟩ := blk4 KA8.out
      obtain ⟨y0, y1, y2, y3⟩ := blk4 KB8.out
      go_wp2_with fail
      refine (O4.out _).mono ?_
      rintro e w9 ⟨rfl, b9⟩
      have B9 := Lib.hid (below_then B8.out b9)
      clear x0 x1 x2 x3 y0 y1 y2 y3 KA8 KB8 B8 b9
      go_wp2_with fail
      go_ret
      exact ⟨by simp, B9.out⟩
end Go.Proofs.YtggbdpamjjgakaaDoor.Oi
