/- Both functions GradeLast. -/
import Derived.Test.YtaoknbhpjnileaaGnLib
namespace Go.Proofs.Ytaoknbhpjnileaa.Gl
open Go.RowKit Go.Shelf Ft Ge Qb La Ga Fg Jo

set_option maxRecDepth 100000 in
set_option maxHeartbeats 2000000 in
theorem slast_any (s : ByteArray) (x g : Nat → Int) (st : Int) (hl : laB s x = true) (hg : grB g = true) (h3 : -30 ≤ st) (h4 : st ≤ 30) (w : World) :
    Calls Try.prog 86 #[laV s x, fvV g, .int .i64 st] w fun e w' => e = .returned (laV s (ag x g st)) ∧ Below w.heap.size w w' := by
  obtain ⟨kx, kg, kz⟩ := three w (laC s x 33) (fvC g 61) (.cells #[.string ⟨#[]⟩, .int .i64 0, .int .i64 0, .int .i64 0, .int .i64 0, .int .i64 0] 33)
  have B0 := Lib.hid (below3 w (laC s x 33) (fvC g 61) (.cells #[.string ⟨#[]⟩, .int .i64 0, .int .i64 0, .int .i64 0, .int .i64 0, .int .i64 0] 33))
  have CA : ∀ k, k < 5 → ∀ w, Calls Try.prog 105 #[.int .i64 (x k), .int .i64 (g k), .int .i64 st] w fun e w' => e = .returned (.int .i64 (ag x g st k)) ∧ w = w' := fun k hk w => by
    obtain ⟨l1, l2⟩ := la_at hl hk
    obtain ⟨g1, g2⟩ := gr_at hg hk
    exact add_any (x k) (g k) st l1 l2 g1 g2 h3 h4 w
  have C0 := Lib.hid (CA 0 (by omega))
  have C1 := Lib.hid (CA 1 (by omega))
  have C2 := Lib.hid (CA 2 (by omega))
  have C3 := Lib.hid (CA 3 (by omega))
  have C4 := Lib.hid (CA 4 (by omega))
  clear hl hg h3 h4 CA
  simp only [laV, fvV, laC, fvC] at kx kg kz B0 ⊢
  generalize hy : ag x g st = y at *
  clear hy
  generalize hx0 : x 0 = x0, x 1 = x1, x 2 = x2, x 3 = x3, x 4 = x4, g 0 = g0, g 1 = g1, g 2 = g2, g 3 = g3, g 4 = g4, y 0 = y0, y 1 = y1, y 2 = y2, y 3 = y3, y 4 = y4 at *
  clear hx0
  have KX := Lib.hid kx
  have KG := Lib.hid kg
  have KZ := Lib.hid kz
  clear kx kg kz
  go_enter Try.func86, Try.ntmps86
  go_upto_region 2 with fail
  generalize hw2 : ((w.alloc _).alloc _).alloc _ = w2 at KX KG KZ B0 ⊢
  clear hw2
  refine Bx.wp_region_box 9 10 (z := [.string ⟨#[]⟩, .int .i64 0, .int .i64 0, .int .i64 0, .int .i64 0, .int .i64 0]) (cs := [.string s, .int .i64 y0, .int .i64 0, .int .i64 0, .int .i64 0, .int .i64 0]) (by kernel_rfl) (by kernel_rfl) (by decide) rfl rfl rfl rfl rfl rfl rfl rfl (by simp only [Bx.without, List.take, List.drop, List.cons_append, List.nil_append, Nat.reduceSub]; exact rfl) (by kernel_rfl) alloc_last rfl (by kernel_rfl) (by simp [Value.oneCell']) (by simp) ?_
  apply Exists.intro
  refine ⟨fun w' hw' => ?_, ⟨?_, ?_⟩, fun g6 w3 hg6 b3 k6 => ?_⟩
  · obtain ⟨v0, v1, v2, v3, v4, v5⟩ := blk6 (blk_keep hw' KX.out)
    obtain ⟨u0, u1, u2, u3, u4⟩ := blk5 (blk_keep hw' KG.out)
    have v0 := bey_cell v0
    have v1 := bey_cell v1
    have u0 := bey_cell u0
    repeat (go_big_quiet_step ((go_at_call 105; exact bey_same _ (C0.out _))))
    exact wpQuiet_nil rfl
  · rfl
  · simp
  · have B3 := Lib.hid (below_then B0.out b3)
    have hlx := lt_of_heap KX.out
    have hlg := lt_of_heap KG.out
    have hlz := lt_of_heap KZ.out
    have KX3 := Lib.hid (blk_keep b3 KX.out)
    have KG3 := Lib.hid (blk_keep b3 KG.out)
    have KZ3 := Lib.hid (blk_keep b3 KZ.out)
    have hb6 := lt_of_heap k6
    have n1 : g6 ≠ w.heap.size := by omega
    have n2 : g6 ≠ w.heap.size + 1 := by omega
    have n3 : g6 ≠ w.heap.size + 2 := by omega
    obtain ⟨a0, a1, a2, a3, a4, a5⟩ := blk6 k6
    have fa := blk_free k6
    obtain ⟨v0, v1, v2, v3, v4, v5⟩ := blk6 KX3.out
    obtain ⟨u0, u1, u2, u3, u4⟩ := blk5 KG3.out
    obtain ⟨z0, z1, z2, z3, z4, z5⟩ := blk6 KZ3.out
    have fz := blk_free KZ3.out
    clear b3 k6 KX KG KZ KX3 KG3 KZ3
    simp only [Act.put, List.setIfInBounds_toArray, List.set_cons_succ, List.set_cons_zero]
    go_wp2_with (first | (go_at_call_of 105 x1; refine (C1.out _).mono ?_; rintro e w' ⟨rfl, rfl⟩) | (go_at_call_of 105 x2; refine (C2.out _).mono ?_; rintro e w' ⟨rfl, rfl⟩) | (go_at_call_of 105 x3; refine (C3.out _).mono ?_; rintro e w' ⟨rfl, rfl⟩) | (go_at_call_of 105 x4; refine (C4.out _).mono ?_; rintro e w' ⟨rfl, rfl⟩))
    exact bodyPost_ret (v := .agg #[.string s, .int .i64 y0, .int .i64 y1, .int .i64 y2, .int .i64 y3, .int .i64 y4]) (by simp [results, Try.results86, go_sem, z0, z1, z2, z3, z4, z5]) rfl
      ⟨rfl, by repeat (first | (with_reducible exact B3.out) | (with_reducible refine Below.drew ?_) | (with_reducible refine Below.setCell ?_ (by simp <;> omega) _))⟩
/-- What GradeLast answers. -/
noncomputable def glC (s : ByteArray) (x g : Nat → Int) (st : Int) : Int := if (laB s x && grB g) = true then (if inB st (-30) 30 = true then (if laB s (ag x g st) = true then 0 else 5) else 2) else 1
noncomputable def glS (s : ByteArray) (x g : Nat → Int) (st : Int) : ByteArray := if glC s x g st = 0 then s else ⟨#[]⟩
noncomputable def glM (s : ByteArray) (x g : Nat → Int) (st : Int) : Nat → Int := if glC s x g st = 0 then ag x g st else fun _ => 0
/-- A last and a code: none where the code is not 0. -/
def GlAt (s : ByteArray) (x g : Nat → Int) (st : Int) (w : World) (e : Ending) (w' : World) : Prop := e = .returned (.tuple #[laV (glS s x g st) (glM s x g st), .int .i64 (glC s x g st)]) ∧ Below w.heap.size w w'
theorem gl_not {s : ByteArray} {x g : Nat → Int} {st c : Int} (hc : glC s x g st = c) (h0 : c ≠ 0) {w w' : World} (hb : Below w.heap.size w w') : GlAt s x g st w (.returned (.tuple #[.agg #[.string ⟨#[]⟩, .int .i64 0, .int .i64 0, .int .i64 0, .int .i64 0, .int .i64 0], .int .i64 c])) w' := by
  have hn : ¬ glC s x g st = 0 := by rw [hc]; exact h0
  exact ⟨by unfold glS glM; rw [if_neg hn, if_neg hn, hc], hb⟩
theorem gl_yes {s : ByteArray} {x g : Nat → Int} {st : Int} (hc : glC s x g st = 0) {w w' : World} (hb : Below w.heap.size w w') : GlAt s x g st w (.returned (.tuple #[laV s (ag x g st), .int .i64 0])) w' :=
  ⟨by unfold glS glM; rw [if_pos hc, if_pos hc, hc], hb⟩
theorem steps_any (n : Int) (w : World) : Calls Try.prog 85 #[.int .i64 n] w fun e w' => e = .returned (.bool (inB n (-30) 30)) ∧ w = w' := by
  go_enter Try.func85, Try.ntmps85
  go_wp2_with (go_at_call 65; refine (in_any _ _ _ _).mono ?_; rintro e w' ⟨rfl, rfl⟩)
  go_ret
  exact ⟨rfl, rfl⟩
theorem are_any (n : Int) (w : World) : Calls Try.prog 88 #[.int .i64 n] w fun e w' => e = .returned (.bool (inB n (-30) 30)) ∧ w = w' := by
  go_enter Try.func88, Try.ntmps88
  go_wp2_with (go_at_call 68; refine (within_any _ _ _ _).mono ?_; rintro e w' ⟨rfl, rfl⟩)
  go_ret
  exact ⟨rfl, rfl⟩
set_option maxRecDepth 100000 in
set_option maxHeartbeats 2000000 in
theorem spec_gl (s : ByteArray) (x g : Nat → Int) (st : Int) (hs : s.size ≤ maxLen) (w : World) : Calls Try.prog 52 #[laV s x, fvV g, .int .i64 st] w (GlAt s x g st w) := by
  have C1 := Lib.hid (fun w => one_spec s x hs w)
  have C2 := Lib.hid (fun w => ok_any g w)
  have C3 := Lib.hid (fun w => steps_any st w)
  have C4 := Lib.hid (fun w => one_spec s (ag x g st) hs w)
  have C5 : Hid (laB s x = true → grB g = true → inB st (-30) 30 = true → ∀ w, Calls Try.prog 86 #[laV s x, fvV g, .int .i64 st] w fun e w' => e = .returned (laV s (ag x g st)) ∧ Below w.heap.size w w') := Lib.hid fun h1 h2 h3 w => by
    have h3' : -30 ≤ st ∧ st ≤ 30 := by simpa [inB] using h3
    exact slast_any s x g st h1 h2 h3'.1 h3'.2 w
  have P1 : Hid ((laB s x && grB g) = false → ∀ w', Below w.heap.size w w' → GlAt s x g st w (.returned (.tuple #[.agg #[.string ⟨#[]⟩, .int .i64 0, .int .i64 0, .int .i64 0, .int .i64 0, .int .i64 0], .int .i64 1])) w') := Lib.hid fun h w' hb => gl_not (by simp [glC, h]) (by omega) hb
  have P2 : Hid ((laB s x && grB g) = true → inB st (-30) 30 = false → ∀ w', Below w.heap.size w w' → GlAt s x g st w (.returned (.tuple #[.agg #[.string ⟨#[]⟩, .int .i64 0, .int .i64 0, .int .i64 0, .int .i64 0, .int .i64 0], .int .i64 2])) w') := Lib.hid fun h h' w' hb => gl_not (by simp [glC, h, h']) (by omega) hb
  have P3 : Hid ((laB s x && grB g) = true → inB st (-30) 30 = true → laB s (ag x g st) = false → ∀ w', Below w.heap.size w w' → GlAt s x g st w (.returned (.tuple #[.agg #[.string ⟨#[]⟩, .int .i64 0, .int .i64 0, .int .i64 0, .int .i64 0, .int .i64 0], .int .i64 5])) w') := Lib.hid fun h h' h'' w' hb => gl_not (by simp [glC, h, h', h'']) (by omega) hb
  have P4 : Hid ((laB s x && grB g) = true → inB st (-30) 30 = true → laB s (ag x g st) = true → ∀ w', Below w.heap.size w w' → GlAt s x g st w (.returned (.tuple #[laV s (ag x g st), .int .i64 0])) w') := Lib.hid fun h h' h'' w' hb => gl_yes (by simp [glC, h, h', h'']) hb
  obtain ⟨kx, kg, kz⟩ := three w (laC s x 33) (fvC g 61) (.cells #[.string ⟨#[]⟩, .int .i64 0, .int .i64 0, .int .i64 0, .int .i64 0, .int .i64 0] 33)
  have B0 := Lib.hid (below3 w (laC s x 33) (fvC g 61) (.cells #[.string ⟨#[]⟩, .int .i64 0, .int .i64 0, .int .i64 0, .int .i64 0, .int .i64 0] 33))
  generalize GlAt s x g st w = Q at P1 P2 P3 P4 ⊢
  generalize laB s x = r1 at C1 C5 P1 P2 P3 P4
  generalize grB g = r2 at C2 C5 P1 P2 P3 P4
  generalize inB st (-30) 30 = r3 at C3 C5 P2 P3 P4
  generalize laB s (ag x g st) = r4 at C4 P3 P4
  simp only [laV, fvV, laC, fvC] at kx kg kz B0 C1 C2 C4 C5 P4 ⊢
  generalize hy : ag x g st = y at *
  clear hy
  generalize hx0 : x 0 = x0, x 1 = x1, x 2 = x2, x 3 = x3, x 4 = x4, g 0 = g0, g 1 = g1, g 2 = g2, g 3 = g3, g 4 = g4, y 0 = y0, y 1 = y1, y 2 = y2, y 3 = y3, y 4 = y4 at *
  clear hx0
  have KX := Lib.hid kx
  have KG := Lib.hid kg
  have KZ := Lib.hid kz
  clear kx kg kz
  have R : (r1 = false) ∨ (r1 = true ∧ r2 = false) ∨ (r1 = true ∧ r2 = true ∧ r3 = false) ∨ (r1 = true ∧ r2 = true ∧ r3 = true ∧ r4 = false) ∨ (r1 = true ∧ r2 = true ∧ r3 = true ∧ r4 = true) := by cases r1 <;> cases r2 <;> cases r3 <;> cases r4 <;> simp
  go_enter Try.func52, Try.ntmps52
  go_upto_region 1 with fail
  generalize hw2 : ((w.alloc _).alloc _).alloc _ = w2 at KX KG KZ B0 ⊢
  clear hw2
  obtain ⟨v0, v1, v2, v3, v4, v5⟩ := blk6 KX.out
  go_wp2_with fail
  refine (C1.out _).mono ?_
  rintro e w3 ⟨rfl, b3⟩
  have B3 := Lib.hid (below_then B0.out b3)
  have KX3 := Lib.hid (blk_keep b3 KX.out)
  have KG3 := Lib.hid (blk_keep b3 KG.out)
  have KZ3 := Lib.hid (blk_keep b3 KZ.out)
  clear b3 v0 v1 v2 v3 v4 v5 KX KG KZ B0
  obtain ⟨z0, z1, z2, z3, z4, z5⟩ := blk6 KZ3.out
  have fz := blk_free KZ3.out
  have hlz := lt_of_heap KZ3.out
  rcases R with rfl | ⟨rfl, rfl⟩ | ⟨rfl, rfl, rfl⟩ | ⟨rfl, rfl, rfl, rfl⟩ | ⟨rfl, rfl, rfl, rfl⟩
  · go_wp2_with fail
    exact bodyPost_ret (v := .tuple #[.agg #[.string ⟨#[]⟩, .int .i64 0, .int .i64 0, .int .i64 0, .int .i64 0, .int .i64 0], .int .i64 1]) (by simp [results, Try.results52, go_sem, z0, z1, z2, z3, z4, z5]) rfl
      (P1.out (by simp) _ (by repeat (first | (with_reducible exact B3.out) | (with_reducible refine Below.drew ?_) | (with_reducible refine Below.setCell ?_ (by simp <;> omega) _))))
  all_goals
    obtain ⟨u0, u1, u2, u3, u4⟩ := blk5 KG3.out
    go_wp2_with fail
    refine (C2.out _).mono ?_
    rintro e w4 ⟨rfl, b4⟩
    have B4 := Lib.hid (below_then B3.out b4)
    have KX4 := Lib.hid (blk_keep b4 KX3.out)
    have KG4 := Lib.hid (blk_keep b4 KG3.out)
    have KZ4 := Lib.hid (blk_keep b4 KZ3.out)
    clear b4 u0 u1 u2 u3 u4 z0 z1 z2 z3 z4 z5 fz hlz KX3 KG3 KZ3 B3
    obtain ⟨z0, z1, z2, z3, z4, z5⟩ := blk6 KZ4.out
    have fz := blk_free KZ4.out
    have hlz := lt_of_heap KZ4.out
  · go_wp2_with fail
    exact bodyPost_ret (v := .tuple #[.agg #[.string ⟨#[]⟩, .int .i64 0, .int .i64 0, .int .i64 0, .int .i64 0, .int .i64 0], .int .i64 1]) (by simp [results, Try.results52, go_sem, z0, z1, z2, z3, z4, z5]) rfl
      (P1.out (by simp) _ (by repeat (first | (with_reducible exact B4.out) | (with_reducible refine Below.drew ?_) | (with_reducible refine Below.setCell ?_ (by simp <;> omega) _))))
  · go_wp2_with fail
    refine (C3.out _).mono ?_
    rintro e w' ⟨rfl, rfl⟩
    go_wp2_with fail
    exact bodyPost_ret (v := .tuple #[.agg #[.string ⟨#[]⟩, .int .i64 0, .int .i64 0, .int .i64 0, .int .i64 0, .int .i64 0], .int .i64 2]) (by simp [results, Try.results52, go_sem, z0, z1, z2, z3, z4, z5]) rfl
      (P2.out (by simp) (by first | rfl | trivial) _ (by repeat (first | (with_reducible exact B4.out) | (with_reducible refine Below.drew ?_) | (with_reducible refine Below.setCell ?_ (by simp <;> omega) _))))
  all_goals
    go_wp2_with fail
    refine (C3.out _).mono ?_
    rintro e w' ⟨rfl, rfl⟩
    clear z0 z1 z2 z3 z4 z5 fz hlz
    obtain ⟨v0, v1, v2, v3, v4, v5⟩ := blk6 KX4.out
    obtain ⟨u0, u1, u2, u3, u4⟩ := blk5 KG4.out
    go_wp2_with fail
    refine (C5.out (by first | rfl | trivial) (by first | rfl | trivial) (by first | rfl | trivial) _).mono ?_
    rintro e w5 ⟨rfl, b5⟩
    have B5 := Lib.hid (below_then B4.out b5)
    have KZ5 := Lib.hid (blk_keep b5 KZ4.out)
    clear b5 v0 v1 v2 v3 v4 v5 u0 u1 u2 u3 u4 KX4 KG4 KZ4 B4 C1 C2 C3 C5
    have B6 := Lib.hid (below_then B5.out (below_box w5 (.cells #[.string s, .int .i64 y0, .int .i64 y1, .int .i64 y2, .int .i64 y3, .int .i64 y4] 33)))
    have KZ6 := Lib.hid (blk_keep (below_box w5 (.cells #[.string s, .int .i64 y0, .int .i64 y1, .int .i64 y2, .int .i64 y3, .int .i64 y4] 33)) KZ5.out)
    have KY6 := Lib.hid (heap_alloc_new w5 (.cells #[.string s, .int .i64 y0, .int .i64 y1, .int .i64 y2, .int .i64 y3, .int .i64 y4] 33))
    go_upto_region 6 with fail
    generalize w5.alloc (.cells #[.string s, .int .i64 y0, .int .i64 y1, .int .i64 y2, .int .i64 y3, .int .i64 y4] 33) = w6 at B6 KZ6 KY6 ⊢
    generalize w5.heap.size = gy at KY6 ⊢
    obtain ⟨v0, v1, v2, v3, v4, v5⟩ := blk6 KY6.out
    go_wp2_with fail
    refine (C4.out _).mono ?_
    rintro e w7 ⟨rfl, b7⟩
    have B7 := Lib.hid (below_then B6.out b7)
    have KZ7 := Lib.hid (blk_keep b7 KZ6.out)
    have KY7 := Lib.hid (blk_keep b7 KY6.out)
    clear b7 v0 v1 v2 v3 v4 v5
    obtain ⟨v0, v1, v2, v3, v4, v5⟩ := blk6 KY7.out
    obtain ⟨z0, z1, z2, z3, z4, z5⟩ := blk6 KZ7.out
    have fz := blk_free KZ7.out
    have hlz := lt_of_heap KZ7.out
  · go_wp2_with fail
    exact bodyPost_ret (v := .tuple #[.agg #[.string ⟨#[]⟩, .int .i64 0, .int .i64 0, .int .i64 0, .int .i64 0, .int .i64 0], .int .i64 5]) (by simp [results, Try.results52, go_sem, z0, z1, z2, z3, z4, z5]) rfl
      (P3.out (by simp) (by first | rfl | trivial) (by first | rfl | trivial) _ (by repeat (first | (with_reducible exact B7.out) | (with_reducible refine Below.drew ?_) | (with_reducible refine Below.setCell ?_ (by simp <;> omega) _))))
  · go_wp2_with fail
    exact bodyPost_ret (v := .tuple #[.agg #[.string s, .int .i64 y0, .int .i64 y1, .int .i64 y2, .int .i64 y3, .int .i64 y4], .int .i64 0]) (by simp [results, Try.results52, go_sem, z0, z1, z2, z3, z4, z5]) rfl
      (P4.out (by simp) (by first | rfl | trivial) (by first | rfl | trivial) _ (by repeat (first | (with_reducible exact B7.out) | (with_reducible refine Below.drew ?_) | (with_reducible refine Below.setCell ?_ (by simp <;> omega) _))))
set_option maxRecDepth 100000 in
set_option maxHeartbeats 2000000 in
theorem impl_gl (s : ByteArray) (x g : Nat → Int) (st : Int) (hs : s.size ≤ maxLen) (w : World) : Calls Try.prog 53 #[laV s x, fvV g, .int .i64 st] w (GlAt s x g st w) := by
  have C1 := Lib.hid (fun w => gval_any s x g hs w)
  have C3 := Lib.hid (fun w => are_any st w)
  have C5 : Hid ((laB s x && grB g) = true → inB st (-30) 30 = true → ∀ w, Calls Try.prog 89 #[gdV s x g, .int .i64 st] w fun e w' => e = .returned (.tuple #[laV s (ag x g st), .bool (laB s (ag x g st))]) ∧ Below w.heap.size w w') := Lib.hid fun h1 h3 w => by
    have h3' : -30 ≤ st ∧ st ≤ 30 := by simpa [inB] using h3
    have h1' : laB s x = true ∧ grB g = true := by simpa using h1
    exact after_any s x g st hs h1'.1 h1'.2 h3'.1 h3'.2 w
  have P1 : Hid ((laB s x && grB g) = false → ∀ w', Below w.heap.size w w' → GlAt s x g st w (.returned (.tuple #[.agg #[.string ⟨#[]⟩, .int .i64 0, .int .i64 0, .int .i64 0, .int .i64 0, .int .i64 0], .int .i64 1])) w') := Lib.hid fun h w' hb => gl_not (by simp [glC, h]) (by omega) hb
  have P2 : Hid ((laB s x && grB g) = true → inB st (-30) 30 = false → ∀ w', Below w.heap.size w w' → GlAt s x g st w (.returned (.tuple #[.agg #[.string ⟨#[]⟩, .int .i64 0, .int .i64 0, .int .i64 0, .int .i64 0, .int .i64 0], .int .i64 2])) w') := Lib.hid fun h h' w' hb => gl_not (by simp [glC, h, h']) (by omega) hb
  have P3 : Hid ((laB s x && grB g) = true → inB st (-30) 30 = true → laB s (ag x g st) = false → ∀ w', Below w.heap.size w w' → GlAt s x g st w (.returned (.tuple #[.agg #[.string ⟨#[]⟩, .int .i64 0, .int .i64 0, .int .i64 0, .int .i64 0, .int .i64 0], .int .i64 5])) w') := Lib.hid fun h h' h'' w' hb => gl_not (by simp [glC, h, h', h'']) (by omega) hb
  have P4 : Hid ((laB s x && grB g) = true → inB st (-30) 30 = true → laB s (ag x g st) = true → ∀ w', Below w.heap.size w w' → GlAt s x g st w (.returned (.tuple #[laV s (ag x g st), .int .i64 0])) w') := Lib.hid fun h h' h'' w' hb => gl_yes (by simp [glC, h, h', h'']) hb
  obtain ⟨kx, kg, kz⟩ := three w (laC s x 33) (fvC g 61) (.cells #[.string ⟨#[]⟩, .int .i64 0, .int .i64 0, .int .i64 0, .int .i64 0, .int .i64 0] 33)
  have B0 := Lib.hid (below3 w (laC s x 33) (fvC g 61) (.cells #[.string ⟨#[]⟩, .int .i64 0, .int .i64 0, .int .i64 0, .int .i64 0, .int .i64 0] 33))
  generalize GlAt s x g st w = Q at P1 P2 P3 P4 ⊢
  generalize (laB s x && grB g) = r1 at C1 C5 P1 P2 P3 P4
  generalize inB st (-30) 30 = r3 at C3 C5 P2 P3 P4
  generalize laB s (ag x g st) = r4 at C5 P3 P4
  simp only [laV, fvV, laC, fvC, gdV] at kx kg kz B0 C1 C5 P4 ⊢
  generalize hy : ag x g st = y at *
  clear hy
  generalize hx0 : x 0 = x0, x 1 = x1, x 2 = x2, x 3 = x3, x 4 = x4, g 0 = g0, g 1 = g1, g 2 = g2, g 3 = g3, g 4 = g4, y 0 = y0, y 1 = y1, y 2 = y2, y 3 = y3, y 4 = y4 at *
  clear hx0
  have KX := Lib.hid kx
  have KG := Lib.hid kg
  have KZ := Lib.hid kz
  clear kx kg kz
  have R : (r1 = false) ∨ (r1 = true ∧ r3 = false) ∨ (r1 = true ∧ r3 = true ∧ r4 = false) ∨ (r1 = true ∧ r3 = true ∧ r4 = true) := by cases r1 <;> cases r3 <;> cases r4 <;> simp
  have CA : Hid (∀ w, Calls Try.prog 69 #[.bool r1, .bool r3] w fun e w' => e = .returned (.int .i64 (Ba.argE r1 r3)) ∧ w = w') := Lib.hid fun w => Ba.arg_any r1 r3 w
  go_enter Try.func53, Try.ntmps53
  go_upto_region 1 with fail
  generalize hw2 : ((w.alloc _).alloc _).alloc _ = w2 at KX KG KZ B0 ⊢
  clear hw2
  obtain ⟨v0, v1, v2, v3, v4, v5⟩ := blk6 KX.out
  obtain ⟨u0, u1, u2, u3, u4⟩ := blk5 KG.out
  go_upto_region 2 with fail
  have BD := Lib.hid (below_then B0.out (below_box w2 (.cells #[.string s, .int .i64 x0, .int .i64 x1, .int .i64 x2, .int .i64 x3, .int .i64 x4, .int .i64 g0, .int .i64 g1, .int .i64 g2, .int .i64 g3, .int .i64 g4] 108)))
  have KD := Lib.hid (heap_alloc_new w2 (.cells #[.string s, .int .i64 x0, .int .i64 x1, .int .i64 x2, .int .i64 x3, .int .i64 x4, .int .i64 g0, .int .i64 g1, .int .i64 g2, .int .i64 g3, .int .i64 g4] 108))
  have KZD := Lib.hid (blk_keep (below_box w2 (.cells #[.string s, .int .i64 x0, .int .i64 x1, .int .i64 x2, .int .i64 x3, .int .i64 x4, .int .i64 g0, .int .i64 g1, .int .i64 g2, .int .i64 g3, .int .i64 g4] 108)) KZ.out)
  generalize w2.alloc (.cells #[.string s, .int .i64 x0, .int .i64 x1, .int .i64 x2, .int .i64 x3, .int .i64 x4, .int .i64 g0, .int .i64 g1, .int .i64 g2, .int .i64 g3, .int .i64 g4] 108) = w3 at BD KD KZD ⊢
  generalize w2.heap.size = gd at KD ⊢
  clear v0 v1 v2 v3 v4 v5 u0 u1 u2 u3 u4 KX KG KZ B0
  obtain ⟨d0, d1, d2, d3, d4, d5, d6, d7, d8, d9, d10⟩ := blk11 KD.out
  go_wp2_with fail
  refine (C1.out _).mono ?_
  rintro e w4 ⟨rfl, b4⟩
  have B4 := Lib.hid (below_then BD.out b4)
  have KD4 := Lib.hid (blk_keep b4 KD.out)
  have KZ4 := Lib.hid (blk_keep b4 KZD.out)
  clear b4 d0 d1 d2 d3 d4 d5 d6 d7 d8 d9 d10 KD KZD BD C1
  go_wp2_with fail
  refine (C3.out _).mono ?_
  rintro e w' ⟨rfl, rfl⟩
  go_wp2_with fail
  refine (CA.out _).mono ?_
  rintro e w' ⟨rfl, rfl⟩
  obtain ⟨z0, z1, z2, z3, z4, z5⟩ := blk6 KZ4.out
  have fz := blk_free KZ4.out
  have hlz := lt_of_heap KZ4.out
  rcases R with rfl | ⟨rfl, rfl⟩ | ⟨rfl, rfl, rfl⟩ | ⟨rfl, rfl, rfl⟩
  · simp only [Ba.argE]
    go_wp2_with fail
    exact bodyPost_ret (v := .tuple #[.agg #[.string ⟨#[]⟩, .int .i64 0, .int .i64 0, .int .i64 0, .int .i64 0, .int .i64 0], .int .i64 1]) (by simp [results, Try.results53, go_sem, z0, z1, z2, z3, z4, z5]) rfl
      (P1.out (by first | rfl | trivial) _ (by repeat (first | (with_reducible exact B4.out) | (with_reducible refine Below.drew ?_) | (with_reducible refine Below.setCell ?_ (by simp <;> omega) _))))
  · simp only [Ba.argE]
    go_wp2_with fail
    exact bodyPost_ret (v := .tuple #[.agg #[.string ⟨#[]⟩, .int .i64 0, .int .i64 0, .int .i64 0, .int .i64 0, .int .i64 0], .int .i64 2]) (by simp [results, Try.results53, go_sem, z0, z1, z2, z3, z4, z5]) rfl
      (P2.out (by first | rfl | trivial) (by first | rfl | trivial) _ (by repeat (first | (with_reducible exact B4.out) | (with_reducible refine Below.drew ?_) | (with_reducible refine Below.setCell ?_ (by simp <;> omega) _))))
  all_goals
    simp only [Ba.argE]
    obtain ⟨d0, d1, d2, d3, d4, d5, d6, d7, d8, d9, d10⟩ := blk11 KD4.out
    go_wp2_with fail
    refine (C5.out (by first | rfl | trivial) (by first | rfl | trivial) _).mono ?_
    rintro e w5 ⟨rfl, b5⟩
    have B5 := Lib.hid (below_then B4.out b5)
    have KZ5 := Lib.hid (blk_keep b5 KZ4.out)
    clear b5 d0 d1 d2 d3 d4 d5 d6 d7 d8 d9 d10 KD4 KZ4 B4 C3 C5 z0 z1 z2 z3 z4 z5 fz hlz
    have B6 := Lib.hid (below_then B5.out (below_box w5 (.cells #[.string s, .int .i64 y0, .int .i64 y1, .int .i64 y2, .int .i64 y3, .int .i64 y4] 33)))
    have KZ6 := Lib.hid (blk_keep (below_box w5 (.cells #[.string s, .int .i64 y0, .int .i64 y1, .int .i64 y2, .int .i64 y3, .int .i64 y4] 33)) KZ5.out)
    have KY6 := Lib.hid (heap_alloc_new w5 (.cells #[.string s, .int .i64 y0, .int .i64 y1, .int .i64 y2, .int .i64 y3, .int .i64 y4] 33))
    go_upto_region 6 with fail
    generalize w5.alloc (.cells #[.string s, .int .i64 y0, .int .i64 y1, .int .i64 y2, .int .i64 y3, .int .i64 y4] 33) = w7 at B6 KZ6 KY6 ⊢
    generalize w5.heap.size = gy at KY6 ⊢
    obtain ⟨v0, v1, v2, v3, v4, v5⟩ := blk6 KY6.out
    obtain ⟨z0, z1, z2, z3, z4, z5⟩ := blk6 KZ6.out
    have fz := blk_free KZ6.out
    have hlz := lt_of_heap KZ6.out
  · go_wp2_with fail
    exact bodyPost_ret (v := .tuple #[.agg #[.string ⟨#[]⟩, .int .i64 0, .int .i64 0, .int .i64 0, .int .i64 0, .int .i64 0], .int .i64 5]) (by simp [results, Try.results53, go_sem, z0, z1, z2, z3, z4, z5]) rfl
      (P3.out (by first | rfl | trivial) (by first | rfl | trivial) (by first | rfl | trivial) _ (by repeat (first | (with_reducible exact B6.out) | (with_reducible refine Below.drew ?_) | (with_reducible refine Below.setCell ?_ (by simp <;> omega) _))))
  · go_wp2_with fail
    exact bodyPost_ret (v := .tuple #[.agg #[.string s, .int .i64 y0, .int .i64 y1, .int .i64 y2, .int .i64 y3, .int .i64 y4], .int .i64 0]) (by simp [results, Try.results53, go_sem, z0, z1, z2, z3, z4, z5]) rfl
      (P4.out (by first | rfl | trivial) (by first | rfl | trivial) (by first | rfl | trivial) _ (by repeat (first | (with_reducible exact B6.out) | (with_reducible refine Below.drew ?_) | (with_reducible refine Below.setCell ?_ (by simp <;> omega) _))))
end Go.Proofs.Ytaoknbhpjnileaa.Gl
