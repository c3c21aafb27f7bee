/- The walk of the law of GradeBetween. -/
import Derived.Test.YtaoknbhpjnileabHbLib
import Derived.Test.YtaoknbhpjnileabGvLaw
namespace Go.Proofs.Ytaoknbhpjnileab.Hb
open Go.RowKit Go.Shelf Ft Ge Qb La Ga Fg Jo

theorem alloc_gr (w : World) : (Instr.alloc 59 true (.tuple #[])).run Try.prog w = .ok (.pointer (some ⟨w.heap.size, 0, none⟩)) (w.alloc (.cells [.int .i64 0, .int .i64 0, .int .i64 0, .int .i64 0, .int .i64 0].toArray 59)) := by kernel_rfl
set_option maxRecDepth 100000 in
set_option maxHeartbeats 2000000 in
theorem core (s s' : ByteArray) (a b : Nat → Int) (st : Int) (hs : s.size ≤ maxLen) (hs' : s'.size ≤ maxLen) (hz : s.size ≤ 1048576) (hz' : s'.size ≤ 1048576 - s.size) (w : World) :
    Calls Try.prog 7 #[laV s a, laV s' b, .int .i64 st] w fun e w' => e = .returned (.bool true) ∧ Below w.heap.size w w' := by
  have C := Lib.hid (fun w => sz_last s a 1048576 (by omega) (by omega) w)
  have hle : ¬ (1048576 : Int) - s.size < 0 := by omega
  have CB := Lib.hid (fun w => sz_last s' b (1048576 - s.size) (by omega) (by omega) w)
  have hle2 : ¬ (1048576 : Int) - s.size - s'.size < 0 := by omega
  generalize (1048576 : Int) - s.size - s'.size = l2 at CB hle2
  generalize (1048576 : Int) - s.size = l at C CB hle
  have CT := Lib.hid (fun w => to_last s a w)
  have CG := Lib.hid (fun w => to_last s' b w)
  have CS := Lib.hid (fun w => spec_gb s s' a b st hs hs' w)
  have CI := Lib.hid (fun w => impl_gb s s' a b st hs hs' w)
  have CE := Lib.hid (fun w => eq_grade (gbM s s' a b st) w)
  unfold GbAt at CS CI
  obtain ⟨kx, kg⟩ := two w (laC s a 23) (laC s' b 23)
  have B0 := Lib.hid (below2 w (laC s a 23) (laC s' b 23))
  generalize gbC s s' a b st = cd at CS CI
  have n1 : (cd != cd) = false := by simp
  simp only [laV, fvV, laC] at kx kg B0 C CB CT CG CS CI CE ⊢
  generalize hm : gbM s s' a b st = m at *
  clear hm
  generalize hx0 : a 0 = a0, a 1 = a1, a 2 = a2, a 3 = a3, a 4 = a4, b 0 = b0, b 1 = b1, b 2 = b2, b 3 = b3, b 4 = b4, m 0 = m0, m 1 = m1, m 2 = m2, m 3 = m3, m 4 = m4 at *
  clear hx0
  have KX := Lib.hid kx
  have KG := Lib.hid kg
  clear kg
  obtain ⟨v0, v1, v2, v3, v4, v5⟩ := blk6 kx
  clear kx
  go_enter Try.func7, Try.ntmps7
  go_upto_region 2 with fail
  generalize hw2 : (w.alloc _).alloc _ = w2 at KX KG B0 v0 v1 v2 v3 v4 v5 ⊢
  clear hw2
  go_wp2_with fail
  refine (C.out _).mono ?_
  rintro e w1 ⟨rfl, b1⟩
  have B1 := Lib.hid (below_then B0.out b1)
  have KX1 := Lib.hid (blk_keep b1 KX.out)
  have KG1 := Lib.hid (blk_keep b1 KG.out)
  clear b1 v0 v1 v2 v3 v4 v5 KX KG B0 C
  obtain ⟨v0, v1, v2, v3, v4, v5⟩ := blk6 KG1.out
  go_wp2_with fail
  refine (CB.out _).mono ?_
  rintro e w9 ⟨rfl, b9⟩
  have B9 := Lib.hid (below_then B1.out b9)
  have KX := Lib.hid (blk_keep b9 KX1.out)
  have KG := Lib.hid (blk_keep b9 KG1.out)
  clear b9 v0 v1 v2 v3 v4 v5 KX1 KG1 B1 CB
  go_upto_region 8 with fail
  refine Bx.wp_region_box 9 10 (z := [.int .i64 0, .int .i64 0, .int .i64 0, .int .i64 0, .int .i64 0]) (cs := [.int .i64 m0, .int .i64 m1, .int .i64 m2, .int .i64 m3, .int .i64 m4]) (by kernel_rfl) (by kernel_rfl) (by decide) rfl rfl rfl rfl rfl rfl rfl rfl (by simp only [Bx.without, List.take, List.drop, List.cons_append, List.nil_append, Nat.reduceSub]; exact rfl) (by kernel_rfl) alloc_gr rfl (by kernel_rfl) (by simp [Value.oneCell']) (by simp) ?_
  apply Exists.intro
  refine ⟨fun w' hw' => ?_, ⟨?_, ?_⟩, fun g6 w3 hg6 bw3 kg6 => ?_⟩
  · obtain ⟨v0, v1, v2, v3, v4, v5⟩ := blk6 (blk_keep hw' KX.out)
    obtain ⟨u0, u1, u2, u3, u4, u5⟩ := blk6 (blk_keep hw' KG.out)
    have v0 := bey_cell v0
    have v1 := bey_cell v1
    have v2 := bey_cell v2
    have v3 := bey_cell v3
    have v4 := bey_cell v4
    have v5 := bey_cell v5
    have u0 := bey_cell u0
    have u1 := bey_cell u1
    have u2 := bey_cell u2
    have u3 := bey_cell u3
    have u4 := bey_cell u4
    have u5 := bey_cell u5
    repeat (go_big_quiet_step ((first | (go_at_call_of 16 a0; exact bey_of _ (CT.out _)) | (go_at_call 16; exact bey_of _ (CG.out _)) | (go_at_call 37; exact bey_of _ (CS.out _)))))
    exact wpQuiet_nil rfl
  · rfl
  · simp
  have B3 := Lib.hid (below_then B9.out bw3)
  have K6 := Lib.hid kg6
  have KX3 := Lib.hid (blk_keep bw3 KX.out)
  have KG3 := Lib.hid (blk_keep bw3 KG.out)
  clear bw3 kg6 hg6 KX KG B9 CS
  have KX := KX3
  have KG := KG3
  clear KX3 KG3
  simp only [Act.put, List.setIfInBounds_toArray, List.set_cons_succ, List.set_cons_zero]
  go_upto_region 9 with fail
  refine Bx.wp_region_box 9 10 (z := [.int .i64 0, .int .i64 0, .int .i64 0, .int .i64 0, .int .i64 0]) (cs := [.int .i64 m0, .int .i64 m1, .int .i64 m2, .int .i64 m3, .int .i64 m4]) (by kernel_rfl) (by kernel_rfl) (by decide) rfl rfl rfl rfl rfl rfl rfl rfl (by simp only [Bx.without, List.take, List.drop, List.cons_append, List.nil_append, Nat.reduceSub]; exact rfl) (by kernel_rfl) alloc_gr rfl (by kernel_rfl) (by simp [Value.oneCell']) (by simp) ?_
  apply Exists.intro
  refine ⟨fun w' hw' => ?_, ⟨?_, ?_⟩, fun g7 w4 hg7 bw4 kg7 => ?_⟩
  · obtain ⟨v0, v1, v2, v3, v4, v5⟩ := blk6 (blk_keep hw' KX.out)
    obtain ⟨u0, u1, u2, u3, u4, u5⟩ := blk6 (blk_keep hw' KG.out)
    have v0 := bey_cell v0
    have v1 := bey_cell v1
    have v2 := bey_cell v2
    have v3 := bey_cell v3
    have v4 := bey_cell v4
    have v5 := bey_cell v5
    have u0 := bey_cell u0
    have u1 := bey_cell u1
    have u2 := bey_cell u2
    have u3 := bey_cell u3
    have u4 := bey_cell u4
    have u5 := bey_cell u5
    repeat (go_big_quiet_step ((first | (go_at_call_of 16 a0; exact bey_of _ (CT.out _)) | (go_at_call 16; exact bey_of _ (CG.out _)) | (go_at_call 38; exact bey_of _ (CI.out _)))))
    exact wpQuiet_nil rfl
  · rfl
  · simp
  have B4 := Lib.hid (below_then B3.out bw4)
  have K64 := Lib.hid (blk_keep bw4 K6.out)
  have K7 := Lib.hid kg7
  clear bw4 kg7 hg7 KX KG B3 CI K6 CT CG
  obtain ⟨v0, v1, v2, v3, v4⟩ := blk5 K64.out
  obtain ⟨u0, u1, u2, u3, u4⟩ := blk5 K7.out
  simp only [Act.put, List.setIfInBounds_toArray, List.set_cons_succ, List.set_cons_zero]
  go_wp2_with fail
  refine (CE.out _).mono ?_
  rintro e w5 ⟨rfl, b5⟩
  have B5 := Lib.hid (below_then B4.out b5)
  clear b5 v0 v1 v2 v3 v4 u0 u1 u2 u3 u4
  go_wp2_with fail
  go_ret
  exact ⟨rfl, B5.out⟩
theorem law (s : ByteArray) (l b i h q : Int) (s' : ByteArray) (a0 a1 a2 a3 a4 st : Int) (w : World) (hs : s.size ≤ maxLen) (_ : (Lit.int .i64 l).wf = true) (_ : (Lit.int .i64 b).wf = true) (_ : (Lit.int .i64 i).wf = true) (_ : (Lit.int .i64 h).wf = true) (_ : (Lit.int .i64 q).wf = true)
    (hs' : s'.size ≤ maxLen) (_ : (Lit.int .i64 a0).wf = true) (_ : (Lit.int .i64 a1).wf = true) (_ : (Lit.int .i64 a2).wf = true) (_ : (Lit.int .i64 a3).wf = true) (_ : (Lit.int .i64 a4).wf = true) (_ : (Lit.int .i64 st).wf = true) :
    Calls Try.prog 7 #[.agg #[.string s, .int .i64 l, .int .i64 b, .int .i64 i, .int .i64 h, .int .i64 q], .agg #[.string s', .int .i64 a0, .int .i64 a1, .int .i64 a2, .int .i64 a3, .int .i64 a4], .int .i64 st] w fun e w' => e = .returned (.bool true) ∧ Below w.heap.size w w' := by
  show Calls Try.prog 7 #[laV s (Gv.of5 l b i h q), laV s' (Gv.of5 a0 a1 a2 a3 a4), .int .i64 st] w _
  generalize Gv.of5 l b i h q = x
  generalize Gv.of5 a0 a1 a2 a3 a4 = g
  have hm := hs
  have hm' := hs'
  unfold maxLen at hm hm'
  by_cases hbig : 1048576 < s.size
  · have C := Lib.hid (fun w => sz_last_big s x 1048576 (by omega) hs (by omega) (by omega) w)
    have HW := Lib.hid (below2 w (laC s x 23) (laC s' g 23))
    clear hm hm' hs hs'
    go_enter Try.func7, Try.ntmps7
    go_wp2_with fail
    refine (C.out _).mono ?_
    rintro e w1 ⟨rfl, b1⟩
    have HB := Lib.hid (below_then HW.out b1)
    clear b1
    go_wp2_with fail
    go_ret
    exact ⟨rfl, HB.out⟩
  by_cases hbig2 : 1048576 - s.size < s'.size
  · have C := Lib.hid (fun w => sz_last s x 1048576 (by omega) (by omega) w)
    have hle : ¬ (1048576 : Int) - s.size < 0 := by omega
    have C2 := Lib.hid (fun w => sz_last_big s' g (1048576 - s.size) (by omega) hs' (by omega) (by omega) w)
    generalize (1048576 : Int) - s.size = l at C C2 hle
    obtain ⟨_, kf⟩ := two w (laC s x 23) (laC s' g 23)
    have HW := Lib.hid (below2 w (laC s x 23) (laC s' g 23))
    have KF := Lib.hid kf
    clear kf hbig2 hm hm' hs hs'
    go_enter Try.func7, Try.ntmps7
    go_wp2_with fail
    refine (C.out _).mono ?_
    rintro e w1 ⟨rfl, b1⟩
    have HB := Lib.hid (below_then HW.out b1)
    have KF1 := Lib.hid (blk_keep b1 KF.out)
    clear b1
    obtain ⟨z0, z1, z2, z3, z4, z5⟩ := blk6 KF1.out
    go_wp2_with fail
    refine (C2.out _).mono ?_
    rintro e w2 ⟨rfl, b2⟩
    have HB2 := Lib.hid (below_then HB.out b2)
    clear b2
    go_wp2_with fail
    go_ret
    exact ⟨rfl, HB2.out⟩
  exact core s s' x g st hs hs' (by omega) (by omega) w
end Go.Proofs.Ytaoknbhpjnileab.Hb
