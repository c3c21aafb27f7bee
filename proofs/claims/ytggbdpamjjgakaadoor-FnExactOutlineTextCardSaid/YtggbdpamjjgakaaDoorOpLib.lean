/- The spec's functions on outlines, up to whether a list is one. -/
import Derived.Test.YtggbdpamjjgakaaDoorOlLib
import Derived.Test.YtggbdpamjjgakaaDoorOtLib
import Derived.IntWalk
import Derived.RegionTactic
import Derived.Deep.Cut
import Derived.Deep.QuietTactic
import Derived.BigQuiet
import Derived.Deep.LoopGhost
namespace Go.Proofs.YtggbdpamjjgakaaDoor.Opl
set_option linter.unusedVariables false
open Go.RowKit Ft Is Ge Qb Ol Ot

theorem wr_in {x : Int} (h : -9000000000000000000 ≤ x ∧ x ≤ 9000000000000000000) : IntKind.i64.wrap x = x := IntWalk.i64_in _ (by omega)
set_option maxRecDepth 100000 in
theorem scr (a b c : Pt) (ha : rgB a = true) (hb : rgB b = true) (hc : rgB c = true) (w : World) : Calls Tryd.prog 27 #[spV a.1 a.2, spV b.1 b.2, spV c.1 c.2] w fun e w' => e = .returned (.int .i64 (cr a b c)) ∧ Below w.heap.size w w' := by
  have hcb := cr_bd ha hb hc
  obtain ⟨⟨_, _⟩, _, _⟩ := rg_spec ha
  obtain ⟨⟨_, _⟩, _, _⟩ := rg_spec hb
  obtain ⟨⟨_, _⟩, _, _⟩ := rg_spec hc
  unfold cr at hcb ⊢
  unfold spV
  obtain ⟨a0, a1⟩ := a
  obtain ⟨b0, b1⟩ := b
  obtain ⟨c0, c1⟩ := c
  simp only at *
  have m1 := mul_bd4 (x := b0 - a0) (y := c1 - a1) (by omega) (by omega)
  have m2 := mul_bd4 (x := b1 - a1) (y := c0 - a0) (by omega) (by omega)
  have w1 := wr_in (x := b0 - a0) (by omega)
  have w2 := wr_in (x := c1 - a1) (by omega)
  have w3 := wr_in (x := b1 - a1) (by omega)
  have w4 := wr_in (x := c0 - a0) (by omega)
  have w5 := wr_in (x := (b0 - a0) * (c1 - a1)) (by omega)
  have w6 := wr_in (x := (b1 - a1) * (c0 - a0)) (by omega)
  have w7 := wr_in (x := (b0 - a0) * (c1 - a1) - (b1 - a1) * (c0 - a0)) (by omega)
  clear ha hb hc
  go_enter Tryd.func27, Tryd.ntmps27
  go_wp2
  go_ret
  exact ⟨rfl, by repeat (first | exact Below.refl _ _ | exact below_box _ _ | refine Below.alloc ?_ (by simp <;> omega) _)⟩
theorem smin (a b : Int) (w : World) : Calls Tryd.prog 53 #[.int .i64 a, .int .i64 b] w fun e w' => e = .returned (.int .i64 (min a b)) ∧ w = w' := by
  by_cases h : a < b
  · rw [show min a b = a by omega]
    go_enter Tryd.func53, Tryd.ntmps53
    go_wp2
    go_ret
    exact ⟨rfl, rfl⟩
  · rw [show min a b = b by omega]
    go_enter Tryd.func53, Tryd.ntmps53
    go_wp2
    go_ret
    exact ⟨rfl, rfl⟩
theorem smax (a b : Int) (w : World) : Calls Tryd.prog 54 #[.int .i64 a, .int .i64 b] w fun e w' => e = .returned (.int .i64 (max a b)) ∧ w = w' := by
  by_cases h : b < a
  · rw [show max a b = a by omega]
    go_enter Tryd.func54, Tryd.ntmps54
    go_wp2
    go_ret
    exact ⟨rfl, rfl⟩
  · rw [show max a b = b by omega]
    go_enter Tryd.func54, Tryd.ntmps54
    go_wp2
    go_ret
    exact ⟨rfl, rfl⟩
theorem blk2 {w : World} {g : Nat} {t : TypeId} {c0 c1 : Value} (h : w.heap[g]? = some (.cells #[c0, c1] t (0, 0))) : w.cell? ⟨g, 0, none⟩ = some c0 ∧ w.cell? ⟨g, 1, none⟩ = some c1 :=
  ⟨cell_of_row _ _ _ _ _ _ h, cell_of_row _ _ _ _ _ _ h⟩
set_option maxRecDepth 100000 in
theorem sbtw (a b p : Pt) (w : World) : Calls Tryd.prog 47 #[spV a.1 a.2, spV b.1 b.2, spV p.1 p.2] w fun e w' => e = .returned (.bool (btw a b p)) ∧ Below w.heap.size w w' := by
  obtain ⟨a0, a1⟩ := a
  obtain ⟨b0, b1⟩ := b
  obtain ⟨p0, p1⟩ := p
  unfold btw spV
  simp only
  have M0 := Lib.hid fun w => smin a0 b0 w
  have X0 := Lib.hid fun w => smax a0 b0 w
  have M1 := Lib.hid fun w => smin a1 b1 w
  have X1 := Lib.hid fun w => smax a1 b1 w
  have I0 := Lib.hid fun w => Ft.in_any p0 (min a0 b0) (max a0 b0) w
  have I1 := Lib.hid fun w => Ft.in_any p1 (min a1 b1) (max a1 b1) w
  generalize inB p0 (min a0 b0) (max a0 b0) = r0 at I0 ⊢
  generalize inB p1 (min a1 b1) (max a1 b1) = r1 at I1 ⊢
  generalize min a0 b0 = m0, max a0 b0 = x0, min a1 b1 = m1, max a1 b1 = x1 at M0 X0 M1 X1 I0 I1
  obtain ⟨ka, kb, kp⟩ := three w (spC a0 a1 31) (spC b0 b1 31) (spC p0 p1 31)
  have B0 := Lib.hid (below3 w (spC a0 a1 31) (spC b0 b1 31) (spC p0 p1 31))
  cases r0
  all_goals
    go_enter Tryd.func47, Tryd.ntmps47
    go_upto_region 1 with fail
    generalize ((w.alloc _).alloc _).alloc _ = w3 at ka kb kp B0 ⊢
    obtain ⟨u0, u1⟩ := blk2 ka
    obtain ⟨v0, v1⟩ := blk2 kb
    obtain ⟨t0, t1⟩ := blk2 kp
    have u0 := bey_cell u0
    have u1 := bey_cell u1
    have v0 := bey_cell v0
    have v1 := bey_cell v1
    have t0 := bey_cell t0
    have t1 := bey_cell t1
    clear ka kb kp
    refine wp_region_below (by kernel_rfl) (by kernel_rfl) ?_
    repeat (go_big_quiet_step (first | (go_at_call 53; first | (with_reducible exact bey_same _ (M0.out _)) | (with_reducible exact bey_same _ (M1.out _))) | (go_at_call 54; first | (with_reducible exact bey_same _ (X0.out _)) | (with_reducible exact bey_same _ (X1.out _))) | (go_at_call 16; first | (with_reducible exact bey_same _ (I0.out _)) | (with_reducible exact bey_same _ (I1.out _)))))
    refine wpQuiet_nil ?_
    rintro _ ⟨pq, rfl⟩
    have HQ := Lib.hid (below_then B0.out pq.h)
    generalize pq.to = wq at HQ ⊢
    clear u0 u1 v0 v1 t0 t1
    go_wp2_with fail
    go_ret
    exact ⟨by simp, HQ.out⟩
set_option maxRecDepth 100000 in
theorem son (a b p : Pt) (ha : rgB a = true) (hb : rgB b = true) (hp : rgB p = true) (w : World) : Calls Tryd.prog 36 #[spV a.1 a.2, spV b.1 b.2, spV p.1 p.2] w fun e w' => e = .returned (.bool (onS a b p)) ∧ Below w.heap.size w w' := by
  have CC := Lib.hid fun w => scr a b p ha hb hp w
  have CB := Lib.hid fun w => sbtw a b p w
  unfold onS
  generalize btw a b p = r at CB ⊢
  generalize cr a b p = c at CC ⊢
  obtain ⟨a0, a1⟩ := a
  obtain ⟨b0, b1⟩ := b
  obtain ⟨p0, p1⟩ := p
  simp only [spV] at CC CB ⊢
  obtain ⟨ka, kb, kp⟩ := three w (spC a0 a1 31) (spC b0 b1 31) (spC p0 p1 31)
  have B0 := Lib.hid (below3 w (spC a0 a1 31) (spC b0 b1 31) (spC p0 p1 31))
  clear ha hb hp
  have R : (c == 0) = true ∨ (c == 0) = false := by cases (c == 0) <;> simp
  rcases R with hc | hc
  all_goals
    go_enter Tryd.func36, Tryd.ntmps36
    go_upto_region 1 with fail
    generalize ((w.alloc _).alloc _).alloc _ = w3 at ka kb kp B0 ⊢
    obtain ⟨u0, u1⟩ := blk2 ka
    obtain ⟨v0, v1⟩ := blk2 kb
    obtain ⟨t0, t1⟩ := blk2 kp
    go_wp2_with fail
    refine (CC.out _).mono ?_
    rintro e w4 ⟨rfl, b4⟩
    have B4 := Lib.hid (below_then B0.out b4)
    have ka4 := blk_keep b4 ka
    have kb4 := blk_keep b4 kb
    have kp4 := blk_keep b4 kp
    clear ka kb kp u0 u1 v0 v1 t0 t1 b4 B0
    obtain ⟨u0, u1⟩ := blk2 ka4
    obtain ⟨v0, v1⟩ := blk2 kb4
    obtain ⟨t0, t1⟩ := blk2 kp4
    go_wp2_with fail
  · refine (CB.out _).mono ?_
    rintro e w5 ⟨rfl, b5⟩
    have B5 := Lib.hid (below_then B4.out b5)
    clear ka4 kb4 kp4 u0 u1 v0 v1 t0 t1 b5
    go_wp2_with fail
    go_ret
    exact ⟨by rw [beq_iff_eq] at hc; simp [hc], B5.out⟩
  · go_ret
    exact ⟨by rw [beq_eq_false_iff_ne] at hc; simp [hc], B4.out⟩
theorem ssgn (n : Int) (w : World) : Calls Tryd.prog 37 #[.int .i64 n] w fun e w' => e = .returned (.int .i64 (sgn n)) ∧ w = w' := by
  unfold sgn
  by_cases h : n < 0
  · rw [if_pos h]
    go_enter Tryd.func37, Tryd.ntmps37
    go_wp2
    go_ret
    exact ⟨rfl, rfl⟩
  · rw [if_neg h]
    by_cases h2 : 0 < n
    · rw [if_pos h2]
      go_enter Tryd.func37, Tryd.ntmps37
      go_wp2
      go_ret
      exact ⟨rfl, rfl⟩
    · rw [if_neg h2]
      go_enter Tryd.func37, Tryd.ntmps37
      go_wp2
      go_ret
      exact ⟨rfl, rfl⟩
theorem sgn_bd (n : Int) : -1 ≤ sgn n ∧ sgn n ≤ 1 := by unfold sgn; split <;> (try split) <;> omega
theorem sgn_mul (n m : Int) : -1 ≤ sgn n * sgn m ∧ sgn n * sgn m ≤ 1 := by
  have := mul_bd (B := 1) (x := sgn n) (y := sgn m) (sgn_bd n) (sgn_bd m)
  omega
theorem four (w : World) (A B Y Z : Obj) : ((((w.alloc A).alloc B).alloc Y).alloc Z).heap[w.heap.size]? = some A ∧ ((((w.alloc A).alloc B).alloc Y).alloc Z).heap[w.heap.size + 1]? = some B ∧ ((((w.alloc A).alloc B).alloc Y).alloc Z).heap[w.heap.size + 2]? = some Y ∧ ((((w.alloc A).alloc B).alloc Y).alloc Z).heap[w.heap.size + 3]? = some Z := by
  obtain ⟨h1, h2, h3⟩ := three w A B Y
  refine ⟨blk_old Z h1, blk_old Z h2, blk_old Z h3, ?_⟩
  have := heap_alloc_new (((w.alloc A).alloc B).alloc Y) Z
  simpa using this
theorem below4 (w : World) (A B Y Z : Obj) : Below w.heap.size w ((((w.alloc A).alloc B).alloc Y).alloc Z) := below_then (below3 w A B Y) (below_box _ Z)
set_option maxRecDepth 100000 in
set_option maxHeartbeats 2000000 in
theorem smeet (a b c d : Pt) (ha : rgB a = true) (hb : rgB b = true) (hc : rgB c = true) (hd : rgB d = true) (w : World) : Calls Tryd.prog 28 #[spV a.1 a.2, spV b.1 b.2, spV c.1 c.2, spV d.1 d.2] w fun e w' => e = .returned (.bool (mtS a b c d)) ∧ Below w.heap.size w w' := by
  have O1 := Lib.hid fun w => son a b c ha hb hc w
  have O2 := Lib.hid fun w => son a b d ha hb hd w
  have O3 := Lib.hid fun w => son c d a hc hd ha w
  have O4 := Lib.hid fun w => son c d b hc hd hb w
  have K1 := Lib.hid fun w => scr a b c ha hb hc w
  have K2 := Lib.hid fun w => scr a b d ha hb hd w
  have K3 := Lib.hid fun w => scr c d a hc hd ha w
  have K4 := Lib.hid fun w => scr c d b hc hd hb w
  have S1 := Lib.hid fun w => ssgn (cr a b c) w
  have S2 := Lib.hid fun w => ssgn (cr a b d) w
  have S3 := Lib.hid fun w => ssgn (cr c d a) w
  have S4 := Lib.hid fun w => ssgn (cr c d b) w
  have p1 := sgn_mul (cr a b c) (cr a b d)
  have p2 := sgn_mul (cr c d a) (cr c d b)
  unfold mtS opp
  generalize onS a b c = o1, onS a b d = o2, onS c d a = o3, onS c d b = o4 at O1 O2 O3 O4 ⊢
  generalize sgn (cr a b c) = s1, sgn (cr a b d) = s2, sgn (cr c d a) = s3, sgn (cr c d b) = s4 at S1 S2 S3 S4 p1 p2 ⊢
  generalize cr a b c = k1, cr a b d = k2, cr c d a = k3, cr c d b = k4 at K1 K2 K3 K4 S1 S2 S3 S4
  have g1 := wr_in (x := s1 * s2) (by omega)
  have g2 := wr_in (x := s3 * s4) (by omega)
  clear p1 p2
  obtain ⟨a0, a1⟩ := a
  obtain ⟨b0, b1⟩ := b
  obtain ⟨c0, c1⟩ := c
  obtain ⟨d0, d1⟩ := d
  simp only [spV] at O1 O2 O3 O4 K1 K2 K3 K4 ⊢
  obtain ⟨ka, kb, kc, kd⟩ := four w (spC a0 a1 31) (spC b0 b1 31) (spC c0 c1 31) (spC d0 d1 31)
  have B0 := Lib.hid (below4 w (spC a0 a1 31) (spC b0 b1 31) (spC c0 c1 31) (spC d0 d1 31))
  clear ha hb hc hd
  have KA := Lib.hid ka
  have KB := Lib.hid kb
  have KC := Lib.hid kc
  have KD := Lib.hid kd
  clear ka kb kc kd
  have R : o1 = true ∨ (o1 = false ∧ o2 = true) ∨ (o1 = false ∧ o2 = false ∧ o3 = true) ∨ (o1 = false ∧ o2 = false ∧ o3 = false ∧ o4 = true) ∨ (o1 = false ∧ o2 = false ∧ o3 = false ∧ o4 = false) := by
    cases o1 <;> cases o2 <;> cases o3 <;> cases o4 <;> simp
  go_enter Tryd.func28, Tryd.ntmps28
  go_upto_region 1 with fail
  generalize (((w.alloc _).alloc _).alloc _).alloc _ = w3 at KA KB KC KD B0 ⊢
  obtain ⟨u0, u1⟩ := blk2 KA.out
  obtain ⟨v0, v1⟩ := blk2 KB.out
  obtain ⟨t0, t1⟩ := blk2 KC.out
  go_wp2_with fail
  refine (O1.out _).mono ?_
  rintro e w4 ⟨rfl, b4⟩
  have B4 := Lib.hid (below_then B0.out b4)
  have KA4 := Lib.hid (blk_keep b4 KA.out)
  have KB4 := Lib.hid (blk_keep b4 KB.out)
  have KC4 := Lib.hid (blk_keep b4 KC.out)
  have KD4 := Lib.hid (blk_keep b4 KD.out)
  clear KA KB KC KD u0 u1 v0 v1 t0 t1 b4 B0
  rcases R with rfl | ⟨rfl, rfl⟩ | ⟨rfl, rfl, rfl⟩ | ⟨rfl, rfl, rfl, rfl⟩ | ⟨rfl, rfl, rfl, rfl⟩
  · go_wp2_with fail
    go_ret
    exact ⟨by simp, B4.out⟩
  all_goals
    obtain ⟨u0, u1⟩ := blk2 KA4.out
    obtain ⟨v0, v1⟩ := blk2 KB4.out
    obtain ⟨t0, t1⟩ := blk2 KD4.out
    go_wp2_with fail
    refine (O2.out _).mono ?_
    rintro e w5 ⟨rfl, b5⟩
    have B5 := Lib.hid (below_then B4.out b5)
    have KA5 := Lib.hid (blk_keep b5 KA4.out)
    have KB5 := Lib.hid (blk_keep b5 KB4.out)
    have KC5 := Lib.hid (blk_keep b5 KC4.out)
    have KD5 := Lib.hid (blk_keep b5 KD4.out)
    clear KA4 KB4 KC4 KD4 u0 u1 v0 v1 t0 t1 b5 B4
  · go_wp2_with fail
    go_ret
    exact ⟨by simp, B5.out⟩
  all_goals
    obtain ⟨u0, u1⟩ := blk2 KC5.out
    obtain ⟨v0, v1⟩ := blk2 KD5.out
    obtain ⟨t0, t1⟩ := blk2 KA5.out
    go_wp2_with fail
    refine (O3.out _).mono ?_
    rintro e w6 ⟨rfl, b6⟩
    have B6 := Lib.hid (below_then B5.out b6)
    have KA6 := Lib.hid (blk_keep b6 KA5.out)
    have KB6 := Lib.hid (blk_keep b6 KB5.out)
    have KC6 := Lib.hid (blk_keep b6 KC5.out)
    have KD6 := Lib.hid (blk_keep b6 KD5.out)
    clear KA5 KB5 KC5 KD5 u0 u1 v0 v1 t0 t1 b6 B5
  · go_wp2_with fail
    go_ret
    exact ⟨by simp, B6.out⟩
  all_goals
    obtain ⟨u0, u1⟩ := blk2 KC6.out
    obtain ⟨v0, v1⟩ := blk2 KD6.out
    obtain ⟨t0, t1⟩ := blk2 KB6.out
    go_wp2_with fail
    refine (O4.out _).mono ?_
    rintro e w7 ⟨rfl, b7⟩
    have B7 := Lib.hid (below_then B6.out b7)
    have KA7 := Lib.hid (blk_keep b7 KA6.out)
    have KB7 := Lib.hid (blk_keep b7 KB6.out)
    have KC7 := Lib.hid (blk_keep b7 KC6.out)
    have KD7 := Lib.hid (blk_keep b7 KD6.out)
    clear KA6 KB6 KC6 KD6 u0 u1 v0 v1 t0 t1 b7 B6
  · go_wp2_with fail
    go_ret
    exact ⟨by simp, B7.out⟩
  · clear O1 O2 O3 O4
    generalize hd1 : decide (s1 * s2 < 0) = q1
    generalize hd2 : decide (s3 * s4 < 0) = q2
    go_upto_region 3 with fail
    obtain ⟨u0, u1⟩ := blk2 KA7.out
    obtain ⟨v0, v1⟩ := blk2 KB7.out
    obtain ⟨t0, t1⟩ := blk2 KC7.out
    obtain ⟨x0, x1⟩ := blk2 KD7.out
    clear KA7 KB7 KC7 KD7
    have u0 := bey_cell u0
    have u1 := bey_cell u1
    have v0 := bey_cell v0
    have v1 := bey_cell v1
    have t0 := bey_cell t0
    have t1 := bey_cell t1
    have x0 := bey_cell x0
    have x1 := bey_cell x1
    cases q1
    all_goals
      refine wp_region_below (by kernel_rfl) (by kernel_rfl) ?_
      repeat (go_big_quiet_step (first | (go_at_call 27; first | (with_reducible exact bey_of _ (K1.out _)) | (with_reducible exact bey_of _ (K2.out _)) | (with_reducible exact bey_of _ (K3.out _)) | (with_reducible exact bey_of _ (K4.out _))) | (go_at_call 37; first | (with_reducible exact bey_same _ (S1.out _)) | (with_reducible exact bey_same _ (S2.out _)) | (with_reducible exact bey_same _ (S3.out _)) | (with_reducible exact bey_same _ (S4.out _)))))
      refine wpQuiet_nil ?_
      rintro _ ⟨pq, rfl⟩
      have HQ := Lib.hid (below_then B7.out pq.h)
      generalize pq.to = wq at HQ ⊢
      clear u0 u1 v0 v1 t0 t1 x0 x1
      go_wp2_with fail
      go_ret
      exact ⟨by first | (simp at hd1 ⊢; omega) | (rw [hd1, hd2]; simp) | (simp [hd1, hd2]) | (simp at hd1 hd2 ⊢; omega), HQ.out⟩
end Go.Proofs.YtggbdpamjjgakaaDoor.Opl
