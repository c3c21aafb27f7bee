/- The walk of the law of StepsFor. -/
import Derived.Test.YtaoknbhpjnileabSfLib
import Derived.Test.YtaoknbhpjnileabGvLaw
namespace Go.Proofs.Ytaoknbhpjnileab.Sf
open Go.RowKit Go.Shelf Ft Ge Qb La Ga

set_option maxRecDepth 100000 in
set_option maxHeartbeats 2000000 in
theorem core (s : ByteArray) (x g : Nat → Int) (l : Int) (hs : s.size ≤ maxLen) (hz : s.size ≤ 1048576) (w : World) :
    Calls Try.prog 8 #[laV s x, fvV g, .int .i64 l] w fun e w' => e = .returned (.bool true) ∧ Below w.heap.size w w' := by
  have C := Lib.hid (fun w => sz_last s x 1048576 (by omega) (by omega) w)
  have hle : ¬ (1048576 : Int) - s.size < 0 := by omega
  generalize (1048576 : Int) - s.size = lf at C hle
  have CT := Lib.hid (fun w => to_last s x w)
  have CG := Lib.hid (fun w => to_grade g w)
  have CS := Lib.hid (fun w => spec_sf s x g l hs w)
  have CI := Lib.hid (fun w => impl_sf s x g l hs w)
  unfold SfAt at CS CI
  obtain ⟨kx, kg⟩ := two w (laC s x 23) (fvC g 56)
  have B0 := Lib.hid (below2 w (laC s x 23) (fvC g 56))
  generalize sfC s x g l = cd at CS CI
  generalize sfV s x g l = vd at CS CI
  have n1 : (cd != cd) = false := by simp
  have n2 : (vd != vd) = false := by simp
  simp only [laV, fvV, laC, fvC] at kx kg B0 C CT CG CS CI ⊢
  generalize hx0 : x 0 = x0, x 1 = x1, x 2 = x2, x 3 = x3, x 4 = x4, g 0 = g0, g 1 = g1, g 2 = g2, g 3 = g3, g 4 = g4 at *
  clear hx0
  have KX := Lib.hid kx
  have KG := Lib.hid kg
  clear kg
  obtain ⟨v0, v1, v2, v3, v4, v5⟩ := blk6 kx
  clear kx
  go_enter Try.func8, Try.ntmps8
  go_upto_region 2 with fail
  generalize hw2 : (w.alloc _).alloc _ = w2 at KX KG B0 v0 v1 v2 v3 v4 v5 ⊢
  clear hw2
  go_wp2_with fail
  refine (C.out _).mono ?_
  rintro e w1 ⟨rfl, b1⟩
  have B1 := Lib.hid (below_then B0.out b1)
  have KX1 := Lib.hid (blk_keep b1 KX.out)
  have KG1 := Lib.hid (blk_keep b1 KG.out)
  clear b1 v0 v1 v2 v3 v4 v5 KX KG B0 C
  go_upto_region 5 with fail
  obtain ⟨v0, v1, v2, v3, v4, v5⟩ := blk6 KX1.out
  obtain ⟨u0, u1, u2, u3, u4⟩ := blk5 KG1.out
  have v0 := bey_cell v0
  have v1 := bey_cell v1
  have v2 := bey_cell v2
  have v3 := bey_cell v3
  have v4 := bey_cell v4
  have v5 := bey_cell v5
  have u0 := bey_cell u0
  have u1 := bey_cell u1
  have u2 := bey_cell u2
  have u3 := bey_cell u3
  have u4 := bey_cell u4
  refine wp_region_below (by kernel_rfl) (by kernel_rfl) ?_
  repeat (go_big_quiet_step ((first | (go_at_call 16; exact bey_of _ (CT.out _)) | (go_at_call 34; exact bey_of _ (CG.out _)) | (go_at_call 40; exact bey_of _ (CS.out _)))))
  refine wpQuiet_nil ?_
  rintro _ ⟨pq, rfl⟩
  have B4 := Lib.hid (below_then B1.out pq.h)
  have KX4 := Lib.hid (blk_keep pq.h KX1.out)
  have KG4 := Lib.hid (blk_keep pq.h KG1.out)
  generalize pq.to = w4 at B4 KX4 KG4 ⊢
  clear v0 v1 v2 v3 v4 v5 u0 u1 u2 u3 u4 KX1 KG1 B1 CS
  go_upto_region 6 with fail
  obtain ⟨v0, v1, v2, v3, v4, v5⟩ := blk6 KX4.out
  obtain ⟨u0, u1, u2, u3, u4⟩ := blk5 KG4.out
  have v0 := bey_cell v0
  have v1 := bey_cell v1
  have v2 := bey_cell v2
  have v3 := bey_cell v3
  have v4 := bey_cell v4
  have v5 := bey_cell v5
  have u0 := bey_cell u0
  have u1 := bey_cell u1
  have u2 := bey_cell u2
  have u3 := bey_cell u3
  have u4 := bey_cell u4
  refine wp_region_below (by kernel_rfl) (by kernel_rfl) ?_
  repeat (go_big_quiet_step ((first | (go_at_call 16; exact bey_of _ (CT.out _)) | (go_at_call 34; exact bey_of _ (CG.out _)) | (go_at_call 41; exact bey_of _ (CI.out _)))))
  refine wpQuiet_nil ?_
  rintro _ ⟨pq, rfl⟩
  have B5 := Lib.hid (below_then B4.out pq.h)
  generalize pq.to = w5 at B5 ⊢
  clear v0 v1 v2 v3 v4 v5 u0 u1 u2 u3 u4 KX4 KG4 B4 CI CT CG
  go_wp2_with fail
  go_ret
  exact ⟨rfl, B5.out⟩
theorem law (s : ByteArray) (l b i h q : Int) (a0 a1 a2 a3 a4 st : Int) (w : World) (hs : s.size ≤ maxLen) (_ : (Lit.int .i64 l).wf = true) (_ : (Lit.int .i64 b).wf = true) (_ : (Lit.int .i64 i).wf = true) (_ : (Lit.int .i64 h).wf = true) (_ : (Lit.int .i64 q).wf = true)
    (_ : (Lit.int .i64 a0).wf = true) (_ : (Lit.int .i64 a1).wf = true) (_ : (Lit.int .i64 a2).wf = true) (_ : (Lit.int .i64 a3).wf = true) (_ : (Lit.int .i64 a4).wf = true) (_ : (Lit.int .i64 st).wf = true) :
    Calls Try.prog 8 #[.agg #[.string s, .int .i64 l, .int .i64 b, .int .i64 i, .int .i64 h, .int .i64 q], .agg #[.int .i64 a0, .int .i64 a1, .int .i64 a2, .int .i64 a3, .int .i64 a4], .int .i64 st] w fun e w' => e = .returned (.bool true) ∧ Below w.heap.size w w' := by
  show Calls Try.prog 8 #[laV s (Gv.of5 l b i h q), fvV (Gv.of5 a0 a1 a2 a3 a4), .int .i64 st] w _
  generalize Gv.of5 l b i h q = x
  generalize Gv.of5 a0 a1 a2 a3 a4 = g
  by_cases hbig : 1048576 < s.size
  · have C := Lib.hid (fun w => sz_last_big s x 1048576 (by omega) hs (by omega) (by omega) w)
    have HW := Lib.hid (below2 w (laC s x 23) (fvC g 56))
    go_enter Try.func8, Try.ntmps8
    go_wp2_with fail
    refine (C.out _).mono ?_
    rintro e w1 ⟨rfl, b1⟩
    have HB := Lib.hid (below_then HW.out b1)
    clear b1
    go_wp2_with fail
    go_ret
    exact ⟨rfl, HB.out⟩
  exact core s x g st hs (by omega) w
end Go.Proofs.Ytaoknbhpjnileab.Sf
