/- Both functions GradeLast. -/
import Derived.Test.YtaoknbhpjnileabGnLib
namespace Go.Proofs.Ytaoknbhpjnileab.Gl
open Go.RowKit Go.Shelf Ft Ge Qb La Ga Fg Jo

set_option maxRecDepth 100000 in
set_option maxHeartbeats 2000000 in
theorem slast_any (s : ByteArray) (x g : Nat → Int) (st : Int) (hl : laB s x = true) (hg : grB g = true) (h3 : -30 ≤ st) (h4 : st ≤ 30) (w : World) :
    Calls Try.prog 70 #[laV s x, fvV g, .int .i64 st] w fun e w' => e = .returned (laV s (ag x g st)) ∧ Below w.heap.size w w' := by
  obtain ⟨kx, kg, kz⟩ := three w (laC s x 33) (fvC g 59) (.cells #[.string ⟨#[]⟩, .int .i64 0, .int .i64 0, .int .i64 0, .int .i64 0, .int .i64 0] 33)
  have B0 := Lib.hid (below3 w (laC s x 33) (fvC g 59) (.cells #[.string ⟨#[]⟩, .int .i64 0, .int .i64 0, .int .i64 0, .int .i64 0, .int .i64 0] 33))
  have CA : ∀ k, k < 5 → ∀ w, Calls Try.prog 83 #[.int .i64 (x k), .int .i64 (g k), .int .i64 st] w fun e w' => e = .returned (.int .i64 (ag x g st k)) ∧ w = w' := fun k hk w => by
    obtain ⟨l1, l2⟩ := la_at hl hk
    obtain ⟨g1, g2⟩ := gr_at hg hk
    exact add_any (x k) (g k) st l1 l2 g1 g2 h3 h4 w
  have C0 := Lib.hid (CA 0 (by omega))
  have C1 := Lib.hid (CA 1 (by omega))
  have C2 := Lib.hid (CA 2 (by omega))
  have C3 := Lib.hid (CA 3 (by omega))
  have C4 := Lib.hid (CA 4 (by omega))
  clear hl hg h3 h4 CA
  simp only [laV, fvV, laC, fvC] at kx kg kz B0 ⊢
  generalize hy : ag x g st = y at *
  clear hy
  generalize hx0 : x 0 = x0, x 1 = x1, x 2 = x2, x 3 = x3, x 4 = x4, g 0 = g0, g 1 = g1, g 2 = g2, g 3 = g3, g 4 = g4, y 0 = y0, y 1 = y1, y 2 = y2, y 3 = y3, y 4 = y4 at *
  clear hx0
  have KX := Lib.hid kx
  have KG := Lib.hid kg
  have KZ := Lib.hid kz
  clear kx kg kz
  go_enter Try.func70, Try.ntmps70
  go_upto_region 2 with fail
  generalize hw2 : ((w.alloc _).alloc _).alloc _ = w2 at KX KG KZ B0 ⊢
  clear hw2
  refine Bx.wp_region_box 9 10 (z := [.string ⟨#[]⟩, .int .i64 0, .int .i64 0, .int .i64 0, .int .i64 0, .int .i64 0]) (cs := [.string s, .int .i64 y0, .int .i64 0, .int .i64 0, .int .i64 0, .int .i64 0]) (by kernel_rfl) (by kernel_rfl) (by decide) rfl rfl rfl rfl rfl rfl rfl rfl (by simp only [Bx.without, List.take, List.drop, List.cons_append, List.nil_append, Nat.reduceSub]; exact rfl) (by kernel_rfl) alloc_last rfl (by kernel_rfl) (by simp [Value.oneCell']) (by simp) ?_
  apply Exists.intro
  refine ⟨fun w' hw' => ?_, ⟨?_, ?_⟩, fun g6 w3 hg6 b3 k6 => ?_⟩
  · obtain ⟨v0, v1, v2, v3, v4, v5⟩ := blk6 (blk_keep hw' KX.out)
    obtain ⟨u0, u1, u2, u3, u4⟩ := blk5 (blk_keep hw' KG.out)
    have v0 := bey_cell v0
    have v1 := bey_cell v1
    have u0 := bey_cell u0
    repeat (go_big_quiet_step ((go_at_call 83; exact bey_same _ (C0.out _))))
    exact wpQuiet_nil rfl
  · rfl
  · simp
  · have B3 := Lib.hid (below_then B0.out b3)
    have hlx := lt_of_heap KX.out
    have hlg := lt_of_heap KG.out
    have hlz := lt_of_heap KZ.out
    have KX3 := Lib.hid (blk_keep b3 KX.out)
    have KG3 := Lib.hid (blk_keep b3 KG.out)
    have KZ3 := Lib.hid (blk_keep b3 KZ.out)
    have hb6 := lt_of_heap k6
    have n1 : g6 ≠ w.heap.size := by omega
    have n2 : g6 ≠ w.heap.size + 1 := by omega
    have n3 : g6 ≠ w.heap.size + 2 := by omega
    obtain ⟨a0, a1, a2, a3, a4, a5⟩ := blk6 k6
    have fa := blk_free k6
    obtain ⟨v0, v1, v2, v3, v4, v5⟩ := blk6 KX3.out
    obtain ⟨u0, u1, u2, u3, u4⟩ := blk5 KG3.out
    obtain ⟨z0, z1, z2, z3, z4, z5⟩ := blk6 KZ3.out
    have fz := blk_free KZ3.out
    clear b3 k6 KX KG KZ KX3 KG3 KZ3
    simp only [Act.put, List.setIfInBounds_toArray, List.set_cons_succ, List.set_cons_zero]
    go_wp2_with (first | (go_at_call_of 83 x1; refine (C1.out _).mono ?_; rintro e w' ⟨rfl, rfl⟩) | (go_at_call_of 83 x2; refine (C2.out _).mono ?_; rintro e w' ⟨rfl, rfl⟩) | (go_at_call_of 83 x3; refine (C3.out _).mono ?_; rintro e w' ⟨rfl, rfl⟩) | (go_at_call_of 83 x4; refine (C4.out _).mono ?_; rintro e w' ⟨rfl, rfl⟩))
    exact bodyPost_ret (v := .agg #[.string s, .int .i64 y0, .int .i64 y1, .int .i64 y2, .int .i64 y3, .int .i64 y4]) (by simp [results, Try.results70, go_sem, z0, z1, z2, z3, z4, z5]) rfl
      ⟨rfl, by repeat (first | (with_reducible exact B3.out) | (with_reducible refine Below.drew ?_) | (with_reducible refine Below.setCell ?_ (by simp <;> omega) _))⟩
/-- What GradeLast answers. -/
noncomputable def glC (s : ByteArray) (x g : Nat → Int) (st : Int) : Int := if (laB s x && grB g) = true then (if inB st (-30) 30 = true then (if laB s (ag x g st) = true then 0 else 5) else 2) else 1
noncomputable def glS (s : ByteArray) (x g : Nat → Int) (st : Int) : ByteArray := if glC s x g st = 0 then s else ⟨#[]⟩
noncomputable def glM (s : ByteArray) (x g : Nat → Int) (st : Int) : Nat → Int := if glC s x g st = 0 then ag x g st else fun _ => 0
/-- A last and a code: none where the code is not 0. -/
def GlAt (s : ByteArray) (x g : Nat → Int) (st : Int) (w : World) (e : Ending) (w' : World) : Prop := e = .returned (.tuple #[laV (glS s x g st) (glM s x g st), .int .i64 (glC s x g st)]) ∧ Below w.heap.size w w'
theorem gl_not {s : ByteArray} {x g : Nat → Int} {st c : Int} (hc : glC s x g st = c) (h0 : c ≠ 0) {w w' : World} (hb : Below w.heap.size w w') : GlAt s x g st w (.returned (.tuple #[.agg #[.string ⟨#[]⟩, .int .i64 0, .int .i64 0, .int .i64 0, .int .i64 0, .int .i64 0], .int .i64 c])) w' := by
  have hn : ¬ glC s x g st = 0 := by rw [hc]; exact h0
  exact ⟨by unfold glS glM; rw [if_neg hn, if_neg hn, hc], hb⟩
theorem gl_yes {s : ByteArray} {x g : Nat → Int} {st : Int} (hc : glC s x g st = 0) {w w' : World} (hb : Below w.heap.size w w') : GlAt s x g st w (.returned (.tuple #[laV s (ag x g st), .int .i64 0])) w' :=
  ⟨by unfold glS glM; rw [if_pos hc, if_pos hc, hc], hb⟩
theorem steps_any (n : Int) (w : World) : Calls Try.prog 68 #[.int .i64 n] w fun e w' => e = .returned (.bool (inB n (-30) 30)) ∧ w = w' := by
  go_enter Try.func68, Try.ntmps68
  go_wp2_with (go_at_call 69; refine (in_any _ _ _ _).mono ?_; rintro e w' ⟨rfl, rfl⟩)
  go_ret
  exact ⟨rfl, rfl⟩
theorem are_any (n : Int) (w : World) : Calls Try.prog 71 #[.int .i64 n] w fun e w' => e = .returned (.bool (inB n (-30) 30)) ∧ w = w' := by
  go_enter Try.func71, Try.ntmps71
  go_wp2_with (go_at_call 72; refine (within_any _ _ _ _).mono ?_; rintro e w' ⟨rfl, rfl⟩)
  go_ret
  exact ⟨rfl, rfl⟩
end Go.Proofs.Ytaoknbhpjnileab.Gl
