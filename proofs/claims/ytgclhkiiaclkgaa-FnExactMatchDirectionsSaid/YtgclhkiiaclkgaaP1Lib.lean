/- Leathers: the program's: valid leathers, gives, stretches, tears, lengths. -/
import Derived.Test.YtgclhkiiaclkgaaJcLib
import Derived.Test.YtgclhkiiaclkgaaAwLib
import Derived.Test.YtgclhkiiaclkgaaBwLib
import Derived.BigQuiet
import Derived.Deep.DeepCutAuto
namespace Go.Proofs.Ytgclhkiiaclkgaa.P1
set_option linter.unusedVariables false
open Go.RowKit Qb Ja Jb
open Go.Proofs.Ytgclhkiiaclkgaa.Ba (inB below_then below_box blk_keep blk1 blk2 blk4 blk_new blk_old blk_free ret_bool ret_int)

abbrev coV (a c s m d : Int) : Value := .agg #[.int .i64 a, .int .i64 c, .int .i64 s, .int .i64 m, .int .i64 d]
abbrev coO (a c s m d : Int) : Obj := .cells #[.int .i64 a, .int .i64 c, .int .i64 s, .int .i64 m, .int .i64 d] 62
theorem blk5 {w : World} {g : Nat} {t : TypeId} {c0 c1 c2 c3 c4 : Value} (h : w.heap[g]? = some (.cells #[c0, c1, c2, c3, c4] t (0, 0))) :
    w.cell? ⟨g, 0, none⟩ = some c0 ∧ w.cell? ⟨g, 1, none⟩ = some c1 ∧ w.cell? ⟨g, 2, none⟩ = some c2 ∧ w.cell? ⟨g, 3, none⟩ = some c3 ∧ w.cell? ⟨g, 4, none⟩ = some c4 :=
  ⟨cell_of_row _ _ _ _ _ _ h, cell_of_row _ _ _ _ _ _ h, cell_of_row _ _ _ _ _ _ h, cell_of_row _ _ _ _ _ _ h, cell_of_row _ _ _ _ _ _ h⟩
theorem ivalid (a c s m : Int) (w : World) : Calls Try.prog 48 #[leV a c s m] w fun e w' => e = .returned (.bool (leB a c s m)) ∧ Below w.heap.size w w' := by
  have C0 := Lib.hid (fun w => Ba.within_any a 0 100 w)
  have C1 := Lib.hid (fun w => Ba.within_any c 0 100 w)
  have C2 := Lib.hid (fun w => Ba.within_any s 0 1000 w)
  have C3 := Lib.hid (fun w => Ba.within_any m 1 500 w)
  have HB := Lib.hid (below_box w (leO a c s m))
  unfold leB
  generalize inB a 0 100 = r0 at C0 ⊢
  generalize inB c 0 100 = r1 at C1 ⊢
  generalize inB s 0 1000 = r2 at C2 ⊢
  generalize inB m 1 500 = r3 at C3 ⊢
  go_enter Try.func48, Try.ntmps48
  go_wp2_with fail
  refine (C0.out _).mono ?_
  rintro e w' ⟨rfl, rfl⟩
  cases r0
  · go_wp2_with fail
    go_ret
    exact ⟨rfl, HB.out⟩
  go_wp2_with fail
  refine (C1.out _).mono ?_
  rintro e w' ⟨rfl, rfl⟩
  cases r1
  · go_wp2_with fail
    go_ret
    exact ⟨rfl, HB.out⟩
  go_wp2_with fail
  refine (C2.out _).mono ?_
  rintro e w' ⟨rfl, rfl⟩
  cases r2
  · go_wp2_with fail
    go_ret
    exact ⟨rfl, HB.out⟩
  go_wp2_with fail
  refine (C3.out _).mono ?_
  rintro e w' ⟨rfl, rfl⟩
  go_wp2_with fail
  go_ret
  exact ⟨rfl, HB.out⟩
theorem impl_vl (a c s m : Int) (w : World) : Calls Try.prog 17 #[leV a c s m] w fun e w' => e = .returned (.bool (leB a c s m)) ∧ Below w.heap.size w w' := by
  have C := Lib.hid (fun w => ivalid a c s m w)
  have HB := Lib.hid (below_box w (leO a c s m))
  generalize leB a c s m = r at C ⊢
  go_enter Try.func17, Try.ntmps17
  go_wp2_with fail
  refine (C.out _).mono ?_
  rintro e w1 ⟨rfl, b1⟩
  go_wp2_with fail
  go_ret
  exact ⟨rfl, below_then HB.out b1⟩
theorem igives (a c s m d : Int) (ha : 0 ≤ a ∧ a ≤ 100) (hc : 0 ≤ c ∧ c ≤ 100) (hd : 0 ≤ d ∧ d ≤ 4) (w : World) : Calls Try.prog 74 #[leV a c s m, .int .i64 d] w fun e w' => e = .returned (.int .i64 (gv a c d)) ∧ Below w.heap.size w w' := by
  obtain ⟨p1, p2⟩ := prod_le ha (show 0 ≤ 4 - d ∧ 4 - d ≤ 4 by omega)
  obtain ⟨q1, q2⟩ := prod_le hc hd
  have t1 : IntKind.i64.wrap (4 - d) = 4 - d := IntWalk.i64_in _ (by omega)
  have t2 : IntKind.i64.wrap (a * (4 - d)) = a * (4 - d) := IntWalk.i64_in _ (by omega)
  have t3 : IntKind.i64.wrap (c * d) = c * d := IntWalk.i64_in _ (by omega)
  have t4 : IntKind.i64.wrap (a * (4 - d) + c * d) = a * (4 - d) + c * d := IntWalk.i64_in _ (by omega)
  go_enter Try.func74, Try.ntmps74
  go_wp2_with fail
  go_ret
  exact ⟨rfl, (Below.refl _ _).alloc (Nat.le_refl _) _⟩
theorem iwhole (n : Int) (w : World) : Calls Try.prog 64 #[.int .i64 n] w fun e w' => e = .returned (.agg #[.int .i64 n, .int .i64 1]) ∧ Below w.heap.size w w' := by
  go_enter Try.func64, Try.ntmps64
  go_wp2
  exact bodyPost_ret (v := .agg #[.int .i64 n, .int .i64 1]) (by simp [results, Try.results64, go_sem]) rfl ⟨rfl, by repeat (first | exact Below.refl _ _ | exact below_box _ _ | refine Below.setCell ?_ (by simp) _ | refine Below.alloc ?_ (by simp) _)⟩
theorem iless (a b p q : Int) (h1 : 0 ≤ a * q) (h2 : a * q ≤ 1000000000000000000) (h3 : 0 ≤ p * b) (h4 : p * b ≤ 1000000000000000000) (w : World) :
    Calls Try.prog 63 #[.agg #[.int .i64 a, .int .i64 b], .agg #[.int .i64 p, .int .i64 q]] w fun e w' => e = .returned (.bool (decide (a * q < p * b))) ∧ Below w.heap.size w w' := by
  go_enter Try.func63, Try.ntmps63
  go_wp2_with fail
  all_goals (try go_quiet (fail))
  all_goals (try go_wp2_with fail)
  all_goals
    go_ret
    exact ⟨rfl, by repeat (first | exact Below.refl _ _ | refine Below.drewN ?_ _ | refine Below.alloc ?_ (by simp) _)⟩
set_option maxHeartbeats 1000000 in
theorem istretch (a c s m d f : Int) (ha : 0 ≤ a ∧ a ≤ 100) (hc : 0 ≤ c ∧ c ≤ 100) (hd : 0 ≤ d ∧ d ≤ 4) (hf : 0 ≤ f ∧ f ≤ 1000) (w : World) : Calls Try.prog 53 #[coV a c s m d, .int .i64 f] w fun e w' => e = .returned (.agg #[.int .i64 (st a c d f), .int .i64 40]) ∧ Below w.heap.size w w' := by
  have CG := Lib.hid (fun w => igives a c s m d ha hc hd w)
  have BX := Lib.hid (Bx2.of w (coO a c s m d) (frO 0 0))
  have h2 := prod_le (gv_in ha hc hd) hf
  unfold st
  generalize gv a c d = z at CG h2 ⊢
  have t1 : IntKind.i64.wrap (z * f) = z * f := IntWalk.i64_in _ (by omega)
  go_enter Try.func53, Try.ntmps53
  go_upto_region 1 with fail
  generalize hw9 : World.alloc _ _ = w0 at BX ⊢
  clear hw9
  obtain ⟨z0, z1, z2, z3, z4⟩ := blk5 BX.out.box
  go_wp2_with fail
  refine (CG.out _).mono ?_
  rintro e w1 ⟨rfl, b1⟩
  have BX1 := Lib.hid (BX.out.below b1)
  clear b1 BX CG z0 z1 z2 z3 z4
  have HF := Lib.hid ((BX1.out.bel.setCell (p := ⟨w.heap.size + 1, 0, none⟩) (Nat.le_succ _) (.int .i64 (z * f))).setCell (p := ⟨w.heap.size + 1, 1, none⟩) (Nat.le_succ _) (.int .i64 40))
  have hfr := blk_free BX1.out.frc
  obtain ⟨z0, z1⟩ := blk2 BX1.out.frc
  go_wp2_with fail
  exact bodyPost_ret (v := .agg #[.int .i64 (z * f), .int .i64 40]) (by simp [results, Try.results53, go_sem, z0, z1]) rfl ⟨rfl, HF.out⟩
set_option maxHeartbeats 1000000 in
theorem itears (a c s m d f : Int) (ha : 0 ≤ a ∧ a ≤ 100) (hc : 0 ≤ c ∧ c ≤ 100) (hm : 1 ≤ m ∧ m ≤ 500) (hd : 0 ≤ d ∧ d ≤ 4) (hf : 0 ≤ f ∧ f ≤ 1000) (w : World) : Calls Try.prog 65 #[coV a c s m d, .int .i64 f] w fun e w' => e = .returned (.bool (decide (40 * m < st a c d f))) ∧ Below w.heap.size w w' := by
  have BX := Lib.hid (Bx.of w (coO a c s m d))
  have CW := Lib.hid (fun w => iwhole m w)
  have CS := Lib.hid (fun w => istretch a c s m d f ha hc hd hf w)
  have h2 := st_in ha hc hd hf
  generalize st a c d f = x at CS h2 ⊢
  have CL := Lib.hid (fun w => iless m 1 x 40 (by omega) (by omega) (by omega) (by omega) w)
  have HE : Hid (decide (m * 40 < x * 1) = decide (40 * m < x)) := Lib.hid (by rw [Int.mul_one, Int.mul_comm])
  generalize decide (m * 40 < x * 1) = r at CL HE
  go_enter Try.func65, Try.ntmps65
  go_upto_region 1 with fail
  generalize hw9 : World.alloc _ _ = w0 at BX ⊢
  clear hw9
  obtain ⟨z0, z1, z2, z3, z4⟩ := blk5 BX.out.box
  have CW1 := Lib.hid (fun p : Beyond w0 => CW.out p.to)
  have CS1 := Lib.hid (fun p : Beyond w0 => CS.out p.to)
  have CL1 := Lib.hid (fun p : Beyond w0 => CL.out p.to)
  have z0' := bey_cell z0
  have z1' := bey_cell z1
  have z2' := bey_cell z2
  have z3' := bey_cell z3
  have z4' := bey_cell z4
  clear z0 z1 z2 z3 z4 CW CS CL
  refine wp_region_below (by kernel_rfl) (by kernel_rfl) ?_
  repeat (go_big_quiet_step (first | (go_at_call 64; with_reducible exact bey_of _ (CW1.out _)) | (go_at_call 53; with_reducible exact bey_of _ (CS1.out _)) | (go_at_call 63; with_reducible exact bey_of _ (CL1.out _))))
  refine wpQuiet_nil ?_
  rintro _ ⟨pq, rfl⟩
  have HQ := Lib.hid (below_then BX.out.bel pq.h)
  generalize pq.to = wq at HQ ⊢
  go_wp2_with fail
  go_ret
  exact ⟨ret_bool HE.out, HQ.out⟩
set_option maxHeartbeats 1000000 in
theorem ilonger (n p q : Int) (h1 : 0 ≤ n ∧ n ≤ 10000) (h2 : 0 ≤ p ∧ p ≤ 1000000000) (h3 : 0 ≤ q ∧ q ≤ 100000) (w : World) : Calls Try.prog 84 #[.int .i64 n, .agg #[.int .i64 p, .int .i64 q]] w fun e w' => e = .returned (.agg #[.int .i64 (n * (1000 * q + p)), .int .i64 (1000 * q)]) ∧ Below w.heap.size w w' := by
  have y1 := prod_le h1 (show 0 ≤ 1000 * q + p ∧ 1000 * q + p ≤ 1100000000 by omega)
  have t1 : IntKind.i64.wrap (1000 * q) = 1000 * q := IntWalk.i64_in _ (by omega)
  have t2 : IntKind.i64.wrap (1000 * q + p) = 1000 * q + p := IntWalk.i64_in _ (by omega)
  have t3 : IntKind.i64.wrap (n * (1000 * q + p)) = n * (1000 * q + p) := IntWalk.i64_in _ (by omega)
  have BX := Lib.hid (Bx2.of w (frO p q) (frO 0 0))
  go_enter Try.func84, Try.ntmps84
  go_upto_region 1 with fail
  generalize hw9 : World.alloc _ _ = w0 at BX ⊢
  clear hw9
  obtain ⟨y0, y1⟩ := blk2 BX.out.box
  have HF := Lib.hid ((BX.out.bel.setCell (p := ⟨w.heap.size + 1, 0, none⟩) (Nat.le_succ _) (.int .i64 (n * (1000 * q + p)))).setCell (p := ⟨w.heap.size + 1, 1, none⟩) (Nat.le_succ _) (.int .i64 (1000 * q)))
  have hfr := blk_free BX.out.frc
  obtain ⟨z0, z1⟩ := blk2 BX.out.frc
  go_wp2_with fail
  exact bodyPost_ret (v := .agg #[.int .i64 (n * (1000 * q + p)), .int .i64 (1000 * q)]) (by simp [results, Try.results84, go_sem, z0, z1]) rfl ⟨rfl, HF.out⟩
set_option maxHeartbeats 1000000 in
theorem iunder (a c s m d n f : Int) (ha : 0 ≤ a ∧ a ≤ 100) (hc : 0 ≤ c ∧ c ≤ 100) (hd : 0 ≤ d ∧ d ≤ 4) (hn : 0 ≤ n ∧ n ≤ 10000) (hf : 0 ≤ f ∧ f ≤ 1000) (w : World) : Calls Try.prog 55 #[coV a c s m d, .int .i64 n, .int .i64 f] w fun e w' => e = .returned (.agg #[.int .i64 (n * (40000 + st a c d f)), .int .i64 40000]) ∧ Below w.heap.size w w' := by
  have CS := Lib.hid (fun w => istretch a c s m d f ha hc hd hf w)
  have BX := Lib.hid (Bx2.of w (coO a c s m d) (frO 0 0))
  have h2 := st_in ha hc hd hf
  generalize st a c d f = x at CS h2 ⊢
  have CL : Hid (∀ w, Calls Try.prog 84 #[.int .i64 n, .agg #[.int .i64 x, .int .i64 40]] w fun e w' => e = .returned (.agg #[.int .i64 (n * (40000 + x)), .int .i64 40000]) ∧ Below w.heap.size w w') := Lib.hid fun w => by
    have := ilonger n x 40 hn (by omega) (by omega) w
    simpa using this
  generalize n * (40000 + x) = y at CL ⊢
  go_enter Try.func55, Try.ntmps55
  go_upto_region 1 with fail
  generalize hw9 : World.alloc _ _ = w0 at BX ⊢
  clear hw9
  obtain ⟨z0, z1, z2, z3, z4⟩ := blk5 BX.out.box
  go_wp2_with fail
  refine (CS.out _).mono ?_
  rintro e w1 ⟨rfl, b1⟩
  have BX1 := Lib.hid (BX.out.below b1)
  clear b1 BX CS z0 z1 z2 z3 z4
  go_wp2_with fail
  refine (CL.out _).mono ?_
  rintro e w2 ⟨rfl, b2⟩
  have BX2 := Lib.hid (BX1.out.below b2)
  clear b2 BX1 CL
  have HF := Lib.hid ((BX2.out.bel.setCell (p := ⟨w.heap.size + 1, 0, none⟩) (Nat.le_succ _) (.int .i64 y)).setCell (p := ⟨w.heap.size + 1, 1, none⟩) (Nat.le_succ _) (.int .i64 40000))
  have hfr := blk_free BX2.out.frc
  obtain ⟨z0, z1⟩ := blk2 BX2.out.frc
  go_wp2_with fail
  exact bodyPost_ret (v := .agg #[.int .i64 y, .int .i64 40000]) (by simp [results, Try.results55, go_sem, z0, z1]) rfl ⟨rfl, HF.out⟩
set_option maxHeartbeats 1000000 in
theorem ikeeps (a c s m d n f : Int) (ha : 0 ≤ a ∧ a ≤ 100) (hc : 0 ≤ c ∧ c ≤ 100) (hs : 0 ≤ s ∧ s ≤ 1000) (hd : 0 ≤ d ∧ d ≤ 4) (hn : 0 ≤ n ∧ n ≤ 10000) (hf : 0 ≤ f ∧ f ≤ 1000) (w : World) : Calls Try.prog 57 #[coV a c s m d, .int .i64 n, .int .i64 f] w fun e w' => e = .returned (.int .i64 (af a c s d n f)) ∧ Below w.heap.size w w' := by
  have CS := Lib.hid (fun w => istretch a c s m d f ha hc hd hf w)
  have BX := Lib.hid (Bx.of w (coO a c s m d))
  have h2 := st_in ha hc hd hf
  unfold af
  generalize st a c d f = x at CS h2 ⊢
  have p1 := prod_le h2 hs
  have p2 := prod_le hn (show 0 ≤ 40000000 + x * s ∧ 40000000 + x * s ≤ 840000000 by omega)
  have t1 : IntKind.i64.wrap (x * s) = x * s := IntWalk.i64_in _ (by omega)
  have CL : Hid (∀ w, Calls Try.prog 84 #[.int .i64 n, .agg #[.int .i64 (x * s), .int .i64 40000]] w fun e w' => e = .returned (.agg #[.int .i64 (n * (40000000 + x * s)), .int .i64 40000000]) ∧ Below w.heap.size w w') := Lib.hid fun w => by
    have := ilonger n (x * s) 40000 hn (by omega) (by omega) w
    simpa using this
  have MK := Lib.hid (fun w => Fg.near_impl (n * (40000000 + x * s)) 40000000 (by omega) (by omega) (by omega) (by omega) w)
  generalize Fg.fl (2 * (n * (40000000 + x * s)) + 40000000) (2 * 40000000) = r at MK ⊢
  generalize n * (40000000 + x * s) = y at CL MK
  go_enter Try.func57, Try.ntmps57
  go_upto_region 1 with fail
  generalize hw9 : World.alloc _ _ = w0 at BX ⊢
  clear hw9
  obtain ⟨z0, z1, z2, z3, z4⟩ := blk5 BX.out.box
  go_wp2_with fail
  refine (CS.out _).mono ?_
  rintro e w1 ⟨rfl, b1⟩
  have BX1 := Lib.hid ((BX.out.below b1).below (below_box w1 (frO x 40)))
  have KF := Lib.hid (heap_alloc_new w1 (frO x 40))
  clear b1 BX CS z0 z1 z2 z3 z4
  go_upto_region 2 with fail
  generalize hw9 : World.alloc _ _ = w2 at BX1 KF ⊢
  clear hw9
  generalize w1.heap.size = g1 at *
  obtain ⟨z0, z1, z2, z3, z4⟩ := blk5 BX1.out.box
  obtain ⟨y0, y1⟩ := blk2 KF.out
  go_wp2_with fail
  refine (CL.out _).mono ?_
  rintro e w3 ⟨rfl, b3⟩
  have HB3 := Lib.hid (below_then (below_then BX1.out.bel b3) (below_box w3 (frO y 40000000)))
  have KG := Lib.hid (heap_alloc_new w3 (frO y 40000000))
  clear b3 BX1 KF CL z0 z1 z2 z3 z4 y0 y1
  go_upto_region 3 with fail
  generalize hw9 : World.alloc _ _ = w4 at HB3 KG ⊢
  clear hw9
  generalize w3.heap.size = g3 at *
  obtain ⟨y0, y1⟩ := blk2 KG.out
  go_wp2_with fail
  refine (MK.out _).mono ?_
  rintro e w' ⟨rfl, rfl⟩
  go_wp2_with fail
  go_ret
  exact ⟨rfl, HB3.out⟩
end Go.Proofs.Ytgclhkiiaclkgaa.P1
