/- Both functions GradeLast. -/
import Derived.Test.YtaoknbhpjnileabGlLib
namespace Go.Proofs.Ytaoknbhpjnileab.Gl
open Go.RowKit Go.Shelf Ft Ge Qb La Ga Fg Jo

theorem alloc_last (w : World) : (Instr.alloc 33 true (.tuple #[])).run Try.prog w = .ok (.pointer (some ⟨w.heap.size, 0, none⟩)) (w.alloc (.cells [.string ⟨#[]⟩, .int .i64 0, .int .i64 0, .int .i64 0, .int .i64 0, .int .i64 0].toArray 33)) := by kernel_rfl
set_option maxRecDepth 100000 in
set_option maxHeartbeats 2000000 in
theorem after_any (s : ByteArray) (x g : Nat → Int) (st : Int) (hs : s.size ≤ maxLen) (hl : laB s x = true) (hg : grB g = true) (h3 : -30 ≤ st) (h4 : st ≤ 30) (w : World) :
    Calls Try.prog 75 #[gdV s x g, .int .i64 st] w fun e w' => e = .returned (.tuple #[laV s (ag x g st), .bool (laB s (ag x g st))]) ∧ Below w.heap.size w w' := by
  have eg : ∀ args w, (callFunc 113 args).run Try.prog w = .ok (.enter 113 args) w := enters_of Try.func113 (by kernel_rfl) rfl
  have K := heap_alloc_new w (gdC s x g 101)
  have CI := Lib.hid (fun w => one_impl s (ag x g st) hs w)
  have CL := Lib.hid (fun w => last_any s (ag x g st) w)
  obtain ⟨kx, ks, kz⟩ := three w (gdC s x g 101) (.cells #[.int .i64 st] 2) (.cells #[.string ⟨#[]⟩, .int .i64 0, .int .i64 0, .int .i64 0, .int .i64 0, .int .i64 0] 33)
  have B0 := Lib.hid (below3 w (gdC s x g 101) (.cells #[.int .i64 st] 2) (.cells #[.string ⟨#[]⟩, .int .i64 0, .int .i64 0, .int .i64 0, .int .i64 0, .int .i64 0] 33))
  have CJ : Hid (∀ W : World, W.cell? ⟨w.heap.size + 1, 0, none⟩ = some (.int .i64 st) → w.heap.size + 1 < W.heap.size → Calls Try.prog 112 #[laV s x, fvV g, .func (.func 113) #[] #[.pointer (some ⟨w.heap.size + 1, 0, none⟩)]] W fun e w' => e = .returned (fvV (ag x g st)) ∧ Below W.heap.size W w') := Lib.hid fun W hc hlt =>
    joined_gr s x g (ag x g st) 113 #[.pointer (some ⟨w.heap.size + 1, 0, none⟩)] W eg (fun k W' hk hb => by
      obtain ⟨l1, l2⟩ := la_at hl hk
      obtain ⟨g1, g2⟩ := gr_at hg hk
      exact clo_any (x k) (g k) st (w.heap.size + 1) l1 l2 g1 g2 h3 h4 W' ((hb.cell (p := ⟨w.heap.size + 1, 0, none⟩) hlt).trans hc))
  clear hl hg h3 h4 eg
  generalize laB s (ag x g st) = q at CI ⊢
  simp only [laV, fvV, gdC, gdV] at CI CL CJ kx ks kz B0 K ⊢
  generalize hy : ag x g st = y at *
  clear hy
  generalize hx0 : x 0 = x0, x 1 = x1, x 2 = x2, x 3 = x3, x 4 = x4, g 0 = g0, g 1 = g1, g 2 = g2, g 3 = g3, g 4 = g4, y 0 = y0, y 1 = y1, y 2 = y2, y 3 = y3, y 4 = y4 at *
  clear hx0
  have KX := Lib.hid kx
  have KS := Lib.hid ks
  have KZ := Lib.hid kz
  clear kx ks kz K
  go_enter Try.func75, Try.ntmps75
  go_upto_region 2 with fail
  generalize hw2 : ((w.alloc _).alloc _).alloc _ = w2 at KX KS KZ B0 ⊢
  clear hw2
  have hz1 := lt_of_heap KS.out
  refine Bx.wp_region_box 10 11 (z := [.string ⟨#[]⟩, .int .i64 0, .int .i64 0, .int .i64 0, .int .i64 0, .int .i64 0]) (cs := [.string s, .int .i64 y0, .int .i64 y1, .int .i64 y2, .int .i64 y3, .int .i64 y4]) (by kernel_rfl) (by kernel_rfl) (by decide) rfl rfl rfl rfl rfl rfl rfl rfl (by simp only [Bx.without, List.take, List.drop, List.cons_append, List.nil_append, Nat.reduceSub]; exact rfl) (by kernel_rfl) alloc_last rfl (by kernel_rfl) (by simp [Value.oneCell']) (by simp) ?_
  apply Exists.intro
  refine ⟨fun w' hw' => ?_, ⟨?_, ?_⟩, fun g6 w3 hg6 b3 k6 => ?_⟩
  · skip
    obtain ⟨v0, v1, v2, v3, v4, v5, v6, v7, v8, v9, v10⟩ := blk11 (blk_keep hw' KX.out)
    have u0 : w'.cell? ⟨w.heap.size + 1, 0, none⟩ = some (.int .i64 st) := cell_of_row _ _ _ _ _ _ (blk_keep hw' KS.out)
    have hz2 := hw'.size
    have CJ' := Lib.hid (fun p : Beyond w' => CJ.out p.to (bey_cell u0 p) (by have := p.h.size; omega))
    have v0 := bey_cell v0
    have v1 := bey_cell v1
    have v2 := bey_cell v2
    have v3 := bey_cell v3
    have v4 := bey_cell v4
    have v5 := bey_cell v5
    have v6 := bey_cell v6
    have v7 := bey_cell v7
    have v8 := bey_cell v8
    have v9 := bey_cell v9
    have v10 := bey_cell v10
    repeat (go_big_quiet_step ((first | (go_at_call 112; exact bey_of _ (CJ'.out _)) | (go_at_call 114; exact bey_of _ (CL.out _)))))
    exact wpQuiet_nil rfl
  · rfl
  · simp
  · skip
    have B3 := Lib.hid (below_then B0.out b3)
    have K6 := Lib.hid k6
    have KZ3 := Lib.hid (blk_keep b3 KZ.out)
    have hlz := lt_of_heap KZ.out
    have hl6 := lt_of_heap k6
    have hlz3 := lt_of_heap KZ3.out
    clear b3 k6 KX KS KZ CJ CL
    obtain ⟨a0, a1, a2, a3, a4, a5⟩ := blk6 K6.out
    simp only [Act.put, List.setIfInBounds_toArray, List.set_cons_succ, List.set_cons_zero]
    go_upto_region 3 with fail
    go_region_with (go_at_call 77; refine (CI.out _).mono ?_; rintro e wn ⟨rfl, bn⟩; have BN := Lib.hid (B3.out.drew.trans (bn.mono B3.out.size)); have KN := Lib.hid (blk_keep (W := w3.drew) bn K6.out); have ZN := Lib.hid (blk_keep (W := w3.drew) bn KZ3.out); clear a0 a1 a2 a3 a4 a5; obtain ⟨a0, a1, a2, a3, a4, a5⟩ := blk6 KN.out; obtain ⟨z0, z1, z2, z3, z4, z5⟩ := blk6 ZN.out; have hf := blk_free ZN.out; clear bn)
    all_goals
      have hzn := lt_of_heap ZN.out
      go_wp2_with fail
      exact bodyPost_ret (v := .tuple #[.agg #[.string s, .int .i64 y0, .int .i64 y1, .int .i64 y2, .int .i64 y3, .int .i64 y4], .bool q]) (by simp [results, Try.results75, go_sem, z0, z1, z2, z3, z4, z5]) rfl
        ⟨rfl, by repeat (first | (with_reducible exact BN.out) | (with_reducible refine Below.drew ?_) | (with_reducible refine Below.setCell ?_ (by simp <;> omega) _))⟩
end Go.Proofs.Ytaoknbhpjnileab.Gl
