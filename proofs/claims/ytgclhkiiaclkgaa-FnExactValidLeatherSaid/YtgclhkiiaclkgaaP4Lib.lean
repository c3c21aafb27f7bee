/- Leathers: the program's StretchOf, LengthUnder, LengthAfter, CutLength. -/
import Derived.Test.YtgclhkiiaclkgaaP3Lib
namespace Go.Proofs.Ytgclhkiiaclkgaa.P4
set_option linter.unusedVariables false
open Go.RowKit Is Ge Qb Ja Jb Jc P1 P2 P3
open Go.Proofs.Ytgclhkiiaclkgaa.Ba (inB below_then below_box blk1 blk2)

theorem al_zero (lo hi : Int) (f : Nat → Int) : tv (Ly.Al lo hi 0 f) = true := tv_yes fun i hi => by omega
theorem al_one (lo hi x : Int) (f : Nat → Int) (h0 : f 0 = x) : tv (Ly.Al lo hi 1 f) = inB x lo hi := by
  cases h : inB x lo hi
  · refine tv_no fun e => ?_
    have h1 : inB x lo hi = true := by rw [← h0]; exact e 0 (by omega)
    rw [h] at h1
    cases h1
  · refine tv_yes fun i hi => ?_
    obtain rfl : i = 0 := by omega
    rw [h0]
    exact h
theorem al_two (lo hi x y : Int) (f : Nat → Int) (h0 : f 0 = x) (h1 : f 1 = y) : tv (Ly.Al lo hi 2 f) = (inB x lo hi && inB y lo hi) := by
  cases h : inB x lo hi
  · refine tv_no fun e => ?_
    have q : inB x lo hi = true := by rw [← h0]; exact e 0 (by omega)
    rw [h] at q
    cases q
  · cases h2 : inB y lo hi
    · refine tv_no fun e => ?_
      have q : inB y lo hi = true := by rw [← h1]; exact e 1 (by omega)
      rw [h2] at q
      cases q
    · refine tv_yes fun i hi => ?_
      rcases (show i = 0 ∨ i = 1 by omega) with rfl | rfl
      · rw [h0]; exact h
      · rw [h1]; exact h2
theorem an_one (a c m d x : Int) : anB a c m d 1 (fun _ => x) = decide (40 * m < st a c d x) := by
  by_cases h : 40 * m < st a c d x
  · rw [decide_eq_true h]; exact tv_yes ⟨0, by omega, h⟩
  · rw [decide_eq_false h]; exact tv_no fun ⟨j, _, q⟩ => h q
theorem an_zero (a c m d : Int) (f : Nat → Int) : anB a c m d 0 f = false := tv_no fun ⟨j, hj, _⟩ => by omega
/-- One force, one length: the spec's code. -/
theorem pe_len (a c s m d n f : Int) : peC a c s m d 1 (fun _ => f) 1 (fun _ => n) = leC a c s m d n f := by
  unfold peC leC rgB asB lenB frcB
  rw [al_one 0 1000 f _ rfl, al_one 1 10000 n _ rfl, an_one]
  cases leB a c s m <;> cases dirB d <;> cases inB f 0 1000 <;> cases inB n 1 10000 <;> simp
theorem pe_one (a c s m d f : Int) : peC a c s m d 1 (fun _ => f) 0 (fun _ => 0) = leC a c s m d 1 f := by
  unfold peC leC rgB asB lenB frcB
  rw [al_one 0 1000 f _ rfl, al_zero, an_one]
  have : inB 1 1 10000 = true := by decide
  rw [this]
  cases leB a c s m <;> cases dirB d <;> cases inB f 0 1000 <;> simp
theorem pe_none (a c s m d : Int) : peC a c s m d 0 (fun _ => 0) 0 (fun _ => 0) = gpC a c s m d := by
  unfold peC gpC rgB
  rw [al_zero, al_zero, an_zero]
  cases leB a c s m <;> cases dirB d <;> simp
theorem pe_two (a c s m d n t : Int) : peC a c s m d 0 (fun _ => 0) 2 (fun j => if j = 0 then n else t) = if leB a c s m = false then 1 else if arB d n t = false then 2 else 0 := by
  unfold peC rgB arB lenB
  rw [al_zero, al_two 1 10000 n t _ rfl rfl, an_zero]
  cases leB a c s m <;> cases dirB d <;> cases inB n 1 10000 <;> cases inB t 1 10000 <;> simp
/-- Slices of one and of two numbers, just made. -/
theorem nums_nil (w : World) (B : Nat) (f : Nat → Int) : Nums w B none 0 f := fun h => absurd h (Nat.lt_irrefl 0)
theorem nums_one (w : World) (x : Int) : Nums (w.alloc (.cells #[.int .i64 x] 2)) (w.alloc (.cells #[.int .i64 x] 2)).heap.size (some ⟨w.heap.size, 0, none⟩) 1 (fun _ => x) := fun _ =>
  ⟨w.heap.size, 0, rfl, by simp, fun i hi => by
    obtain rfl : i = 0 := by omega
    exact cell_of_row _ _ _ _ _ _ (heap_alloc_new w _)⟩
theorem nums_two (w : World) (x y : Int) : Nums (w.alloc (.cells #[.int .i64 x, .int .i64 y] 2)) (w.alloc (.cells #[.int .i64 x, .int .i64 y] 2)).heap.size (some ⟨w.heap.size, 0, none⟩) 2 (fun j => if j = 0 then x else y) := fun _ =>
  ⟨w.heap.size, 0, rfl, by simp, fun i hi => by
    rcases (show i = 0 ∨ i = 1 by omega) with rfl | rfl
    · exact cell_of_row _ _ _ _ _ _ (heap_alloc_new w _)
    · exact cell_of_row _ _ _ _ _ _ (heap_alloc_new w _)⟩
theorem pull_one (a c s m d f : Int) (w : World) : Calls Try.prog 52 #[coV a c s m d, .slice (some ⟨w.heap.size, 0, none⟩) 1 1, .slice none 0 0] (w.alloc (.cells #[.int .i64 f] 2)) fun e w' => e = .returned (.int .i64 (leC a c s m d 1 f)) ∧ Below w.heap.size w w' := by
  rw [← pe_one]
  refine (pull_any a c s m d _ 1 1 (fun _ => f) none 0 0 (fun _ => 0) (by omega) (by omega) _ (nums_one w f) (nums_nil _ _ _)).mono ?_
  rintro e w' ⟨rfl, b⟩
  exact ⟨rfl, below_then (below_box _ _) b⟩
theorem pull_none (a c s m d : Int) (w : World) : Calls Try.prog 52 #[coV a c s m d, .slice none 0 0, .slice none 0 0] w fun e w' => e = .returned (.int .i64 (gpC a c s m d)) ∧ Below w.heap.size w w' := by
  rw [← pe_none]
  exact pull_any a c s m d none 0 0 (fun _ => 0) none 0 0 (fun _ => 0) (by omega) (by omega) _ (nums_nil _ _ _) (nums_nil _ _ _)
theorem pull_two (a c s m d n t : Int) (w : World) : Calls Try.prog 52 #[coV a c s m d, .slice none 0 0, .slice (some ⟨w.heap.size, 0, none⟩) 2 2] (w.alloc (.cells #[.int .i64 n, .int .i64 t] 2)) fun e w' => e = .returned (.int .i64 (if leB a c s m = false then 1 else if arB d n t = false then 2 else 0)) ∧ Below w.heap.size w w' := by
  rw [← pe_two]
  refine (pull_any a c s m d none 0 0 (fun _ => 0) _ 2 2 (fun j => if j = 0 then n else t) (by omega) (by omega) _ (nums_nil _ _ _) (nums_two w n t)).mono ?_
  rintro e w' ⟨rfl, b⟩
  exact ⟨rfl, below_then (below_box _ _) b⟩
theorem pull_len (a c s m d n f : Int) (w : World) : Calls Try.prog 52 #[coV a c s m d, .slice (some ⟨w.heap.size, 0, none⟩) 1 1, .slice (some ⟨w.heap.size + 1, 0, none⟩) 1 1] ((w.alloc (.cells #[.int .i64 f] 2)).alloc (.cells #[.int .i64 n] 2)) fun e w' => e = .returned (.int .i64 (leC a c s m d n f)) ∧ Below w.heap.size w w' := by
  rw [← pe_len]
  have h1 := nums_one w f
  have h2 := nums_one (w.alloc (.cells #[.int .i64 f] 2)) n
  have e : (w.alloc (.cells #[.int .i64 f] 2)).heap.size = w.heap.size + 1 := by simp
  rw [e] at h2
  refine (pull_any a c s m d _ 1 1 (fun _ => f) _ 1 1 (fun _ => n) (by omega) (by omega) _ ((h1.below (below_box _ _) (Nat.le_refl _)).more (by simp)) h2).mono ?_
  rintro e w' ⟨rfl, b⟩
  exact ⟨rfl, below_then (below_then (below_box _ _) (below_box _ _)) b⟩
/-- What stays: all that lay before, and two or three boxes. -/
structure Bx3 (w wr : World) (o o2 o3 : Obj) : Prop where
  bel : Below w.heap.size w wr
  box : wr.heap[w.heap.size]? = some o
  frc : wr.heap[w.heap.size + 1]? = some o2
  cou : wr.heap[w.heap.size + 2]? = some o3
theorem Bx3.of (w : World) (o o2 o3 : Obj) : Bx3 w (((w.alloc o).alloc o2).alloc o3) o o2 o3 := by
  obtain ⟨h1, h2, h3⟩ := three w o o2 o3
  exact ⟨below3 w o o2 o3, h1, h2, h3⟩
theorem Bx3.below {w wr w' : World} {o o2 o3 : Obj} (h : Bx3 w wr o o2 o3) (hb : Below wr.heap.size wr w') : Bx3 w w' o o2 o3 := ⟨below_then h.bel hb, blk_keep hb h.box, blk_keep hb h.frc, blk_keep hb h.cou⟩
theorem lec_st' {a c s m d n f : Int} (h : leC a c s m d n f = 0) : (0 ≤ a ∧ a ≤ 100) ∧ (0 ≤ c ∧ c ≤ 100) ∧ (0 ≤ s ∧ s ≤ 1000) ∧ (0 ≤ d ∧ d ≤ 4) ∧ (0 ≤ n ∧ n ≤ 10000) ∧ (0 ≤ f ∧ f ≤ 1000) := by
  obtain ⟨h1, h2, h3, h4, h5, h6, _⟩ := lec_st h
  exact ⟨h1, h2, h3, h4, ⟨by omega, h5.2⟩, h6⟩
set_option maxHeartbeats 1000000 in
theorem impl_so (a c s m d f : Int) (w : World) : Calls Try.prog 19 #[leV a c s m, .int .i64 d, .int .i64 f] w (QAt (leC a c s m d 1 f) (st a c d f) 40 w) := by
  have BX := Lib.hid (Bx3.of w (leO a c s m) (frO 0 0) (coO a c s m d))
  have CC := Lib.hid (fun w => pull_one a c s m d f w)
  have V0 := Lib.hid (fun h => q_no (C := leC a c s m d 1 f) (x := st a c d f) (y := 40) (w := w) h)
  have V1 := Lib.hid (fun h => q_yes (C := leC a c s m d 1 f) (x := st a c d f) (y := 40) (w := w) h)
  have CI := Lib.hid (fun h => lec_st (a := a) (c := c) (s := s) (m := m) (d := d) (n := 1) (f := f) h)
  have CS := Lib.hid (fun (h : leC a c s m d 1 f = 0) w => istretch a c s m d f (lec_st' h).1 (lec_st' h).2.1 (lec_st' h).2.2.2.1 (lec_st' h).2.2.2.2.2 w)
  generalize QAt (leC a c s m d 1 f) (st a c d f) 40 w = Q at V0 V1 ⊢
  generalize leC a c s m d 1 f = C at CC V0 V1 CI CS
  generalize st a c d f = x at CS V1 CI
  go_enter Try.func19, Try.ntmps19
  go_upto_region 2 with fail
  generalize hw9 : World.alloc _ _ = w0 at BX ⊢
  clear hw9
  obtain ⟨z0, z1, z2, z3, z4⟩ := blk5 BX.out.cou
  go_wp2_with fail
  refine (CC.out _).mono ?_
  rintro e w1 ⟨rfl, b1⟩
  have BX1 := Lib.hid (BX.out.below b1)
  clear b1 BX CC z0 z1 z2 z3 z4
  by_cases h0 : C = 0
  rotate_left
  · have hne : (C != 0) = true := by simpa using h0
    have HF := Lib.hid (V0.out h0 _ ((BX1.out.bel.setCell (p := ⟨w.heap.size + 1, 0, none⟩) (Nat.le_succ _) (.int .i64 0)).setCell (p := ⟨w.heap.size + 1, 1, none⟩) (Nat.le_succ _) (.int .i64 0)))
    have hfr := blk_free BX1.out.frc
    obtain ⟨z0, z1⟩ := blk2 BX1.out.frc
    clear V0 V1 CI CS
    go_wp2_with fail
    exact bodyPost_ret (v := .tuple #[.agg #[.int .i64 0, .int .i64 0], .int .i64 C]) (by simp [results, Try.results19, go_sem, z0, z1]) rfl HF.out
  subst h0
  obtain ⟨a1, a2, a3, a4, a5, a6, a7⟩ := CI.out rfl
  have CS1 := Lib.hid (CS.out rfl)
  have X1 := Lib.hid (V1.out rfl)
  have MK := Lib.hid (fun w => Fr.low_any x 40 (by omega) (by omega) (by omega) (by omega) w)
  generalize x / Nh.gc x 40 = fa at X1 MK
  generalize 40 / Nh.gc x 40 = fb at X1 MK
  clear V0 V1 CI CS
  obtain ⟨z0, z1, z2, z3, z4⟩ := blk5 BX1.out.cou
  go_wp2_with fail
  refine (CS1.out _).mono ?_
  rintro e w2 ⟨rfl, b2⟩
  have BX2 := Lib.hid ((BX1.out.below b2).below (below_box w2 (frO x 40)))
  have KF := Lib.hid (heap_alloc_new w2 (frO x 40))
  clear b2 BX1 CS1 z0 z1 z2 z3 z4
  go_upto_region 6 with fail
  generalize hw9 : World.alloc _ _ = w3 at BX2 KF ⊢
  clear hw9
  generalize w2.heap.size = g2 at *
  obtain ⟨y0, y1⟩ := blk2 KF.out
  go_wp2_with fail
  refine (MK.out _).mono ?_
  rintro e w4 ⟨rfl, b4⟩
  have BX4 := Lib.hid (BX2.out.below b4)
  clear b4 BX2 KF MK y0 y1
  have HF := Lib.hid (X1.out _ ((BX4.out.bel.setCell (p := ⟨w.heap.size + 1, 0, none⟩) (Nat.le_succ _) (.int .i64 fa)).setCell (p := ⟨w.heap.size + 1, 1, none⟩) (Nat.le_succ _) (.int .i64 fb)))
  have hfr := blk_free BX4.out.frc
  obtain ⟨z0, z1⟩ := blk2 BX4.out.frc
  clear X1
  go_wp2_with fail
  exact bodyPost_ret (v := .tuple #[.agg #[.int .i64 fa, .int .i64 fb], .int .i64 0]) (by simp [results, Try.results19, go_sem, z0, z1]) rfl HF.out
set_option maxHeartbeats 1000000 in
theorem impl_lu (a c s m d n f : Int) (w : World) : Calls Try.prog 22 #[leV a c s m, .int .i64 d, .int .i64 n, .int .i64 f] w (QAt (leC a c s m d n f) (n * (40000 + st a c d f)) 40000 w) := by
  have BX := Lib.hid (Bx3.of w (leO a c s m) (frO 0 0) (coO a c s m d))
  have CC := Lib.hid (fun w => pull_len a c s m d n f w)
  have V0 := Lib.hid (fun h => q_no (C := leC a c s m d n f) (x := n * (40000 + st a c d f)) (y := 40000) (w := w) h)
  have V1 := Lib.hid (fun h => q_yes (C := leC a c s m d n f) (x := n * (40000 + st a c d f)) (y := 40000) (w := w) h)
  have CI := Lib.hid (fun h => lec_st (a := a) (c := c) (s := s) (m := m) (d := d) (n := n) (f := f) h)
  have CS := Lib.hid (fun (h : leC a c s m d n f = 0) w => iunder a c s m d n f (lec_st' h).1 (lec_st' h).2.1 (lec_st' h).2.2.2.1 (lec_st' h).2.2.2.2.1 (lec_st' h).2.2.2.2.2 w)
  generalize QAt (leC a c s m d n f) (n * (40000 + st a c d f)) 40000 w = Q at V0 V1 ⊢
  generalize leC a c s m d n f = C at CC V0 V1 CI CS
  generalize st a c d f = x at CS V1 CI
  go_enter Try.func22, Try.ntmps22
  go_upto_region 2 with fail
  generalize hw9 : World.alloc _ _ = w0 at BX ⊢
  clear hw9
  obtain ⟨z0, z1, z2, z3, z4⟩ := blk5 BX.out.cou
  go_wp2_with fail
  refine (CC.out _).mono ?_
  rintro e w1 ⟨rfl, b1⟩
  have BX1 := Lib.hid (BX.out.below b1)
  clear b1 BX CC z0 z1 z2 z3 z4
  by_cases h0 : C = 0
  rotate_left
  · have hne : (C != 0) = true := by simpa using h0
    have HF := Lib.hid (V0.out h0 _ ((BX1.out.bel.setCell (p := ⟨w.heap.size + 1, 0, none⟩) (Nat.le_succ _) (.int .i64 0)).setCell (p := ⟨w.heap.size + 1, 1, none⟩) (Nat.le_succ _) (.int .i64 0)))
    have hfr := blk_free BX1.out.frc
    obtain ⟨z0, z1⟩ := blk2 BX1.out.frc
    clear V0 V1 CI CS
    go_wp2_with fail
    exact bodyPost_ret (v := .tuple #[.agg #[.int .i64 0, .int .i64 0], .int .i64 C]) (by simp [results, Try.results22, go_sem, z0, z1]) rfl HF.out
  subst h0
  obtain ⟨a1, a2, a3, a4, a5, a6, a7⟩ := CI.out rfl
  have CS1 := Lib.hid (CS.out rfl)
  have X1 := Lib.hid (V1.out rfl)
  have y1 := prod_le (show 0 ≤ n ∧ n ≤ 10000 by omega) (show 0 ≤ 40000 + x ∧ 40000 + x ≤ 60000 by omega)
  have MK := Lib.hid (fun w => Fr.low_any (n * (40000 + x)) 40000 (by omega) (by omega) (by omega) (by omega) w)
  generalize (n * (40000 + x)) / Nh.gc (n * (40000 + x)) 40000 = fa at X1 MK
  generalize 40000 / Nh.gc (n * (40000 + x)) 40000 = fb at X1 MK
  clear y1
  generalize n * (40000 + x) = y at CS1 MK
  clear V0 V1 CI CS
  obtain ⟨z0, z1, z2, z3, z4⟩ := blk5 BX1.out.cou
  go_wp2_with fail
  refine (CS1.out _).mono ?_
  rintro e w2 ⟨rfl, b2⟩
  have BX2 := Lib.hid ((BX1.out.below b2).below (below_box w2 (frO y 40000)))
  have KF := Lib.hid (heap_alloc_new w2 (frO y 40000))
  clear b2 BX1 CS1 z0 z1 z2 z3 z4
  go_upto_region 6 with fail
  generalize hw9 : World.alloc _ _ = w3 at BX2 KF ⊢
  clear hw9
  generalize w2.heap.size = g2 at *
  obtain ⟨y0, y1⟩ := blk2 KF.out
  go_wp2_with fail
  refine (MK.out _).mono ?_
  rintro e w4 ⟨rfl, b4⟩
  have BX4 := Lib.hid (BX2.out.below b4)
  clear b4 BX2 KF MK y0 y1
  have HF := Lib.hid (X1.out _ ((BX4.out.bel.setCell (p := ⟨w.heap.size + 1, 0, none⟩) (Nat.le_succ _) (.int .i64 fa)).setCell (p := ⟨w.heap.size + 1, 1, none⟩) (Nat.le_succ _) (.int .i64 fb)))
  have hfr := blk_free BX4.out.frc
  obtain ⟨z0, z1⟩ := blk2 BX4.out.frc
  clear X1
  go_wp2_with fail
  exact bodyPost_ret (v := .tuple #[.agg #[.int .i64 fa, .int .i64 fb], .int .i64 0]) (by simp [results, Try.results22, go_sem, z0, z1]) rfl HF.out
set_option maxHeartbeats 1000000 in
theorem impl_la (a c s m d n f : Int) (w : World) : Calls Try.prog 24 #[leV a c s m, .int .i64 d, .int .i64 n, .int .i64 f] w (IAt (spec_laV a c s m d n f) (leC a c s m d n f) w) := by
  have BX := Lib.hid (Bx2.of w (leO a c s m) (coO a c s m d))
  have CC := Lib.hid (fun w => pull_len a c s m d n f w)
  have CA := Lib.hid (fun (h : leC a c s m d n f = 0) w => ikeeps a c s m d n f (lec_st' h).1 (lec_st' h).2.1 (lec_st' h).2.2.1 (lec_st' h).2.2.2.1 (lec_st' h).2.2.2.2.1 (lec_st' h).2.2.2.2.2 w)
  have V0 : Hid (¬ leC a c s m d n f = 0 → spec_laV a c s m d n f = 0) := Lib.hid fun h => if_neg h
  have V1 : Hid (leC a c s m d n f = 0 → spec_laV a c s m d n f = af a c s d n f) := Lib.hid fun h => if_pos h
  unfold IAt
  generalize spec_laV a c s m d n f = r at V0 V1 ⊢
  generalize leC a c s m d n f = C at CC V0 V1 CA ⊢
  generalize af a c s d n f = x at CA V1
  go_enter Try.func24, Try.ntmps24
  go_upto_region 2 with fail
  generalize hw9 : World.alloc _ _ = w0 at BX ⊢
  clear hw9
  obtain ⟨z0, z1, z2, z3, z4⟩ := blk5 BX.out.frc
  go_wp2_with fail
  refine (CC.out _).mono ?_
  rintro e w1 ⟨rfl, b1⟩
  have BX1 := Lib.hid (BX.out.below b1)
  clear b1 BX CC z0 z1 z2 z3 z4
  by_cases h0 : C = 0
  rotate_left
  · have hne : (C != 0) = true := by simpa using h0
    have HR := Lib.hid (V0.out h0)
    clear V0 V1 CA
    go_wp2_with fail
    exact bodyPost_ret (v := .tuple #[.int .i64 0, .int .i64 C]) (by simp [results, Try.results24, go_sem]) rfl ⟨by rw [HR.out], BX1.out.bel⟩
  subst h0
  have HR := Lib.hid (V1.out rfl)
  have CA1 := Lib.hid (CA.out rfl)
  clear V0 V1 CA
  obtain ⟨z0, z1, z2, z3, z4⟩ := blk5 BX1.out.frc
  go_wp2_with fail
  refine (CA1.out _).mono ?_
  rintro e w2 ⟨rfl, b2⟩
  have HF := Lib.hid (below_then BX1.out.bel b2)
  clear b2 BX1 CA1 z0 z1 z2 z3 z4
  go_wp2_with fail
  exact bodyPost_ret (v := .tuple #[.int .i64 x, .int .i64 0]) (by simp [results, Try.results24, go_sem]) rfl ⟨by rw [HR.out], HF.out⟩
set_option maxHeartbeats 1000000 in
theorem impl_cl (a c s m d n f : Int) (w : World) : Calls Try.prog 34 #[leV a c s m, .int .i64 d, .int .i64 n, .int .i64 f] w (IAt (clV a c s m d n f) (clC a c s m d n f) w) := by
  have BX := Lib.hid (Bx2.of w (leO a c s m) (coO a c s m d))
  have CC := Lib.hid (fun w => pull_len a c s m d n f w)
  have CI := Lib.hid (fun h => lec_st (a := a) (c := c) (s := s) (m := m) (d := d) (n := n) (f := f) h)
  have CS : Hid (leC a c s m d n f = 0 → ∀ w, Calls Try.prog 55 #[coV a c s m d, .int .i64 1, .int .i64 f] w fun e w' => e = .returned (.agg #[.int .i64 (40000 + st a c d f), .int .i64 40000]) ∧ Below w.heap.size w w') := Lib.hid fun h w => by
    have := iunder a c s m d 1 f (lec_st' h).1 (lec_st' h).2.1 (lec_st' h).2.2.2.1 (by omega) (lec_st' h).2.2.2.2.2 w
    rwa [Int.one_mul] at this
  have V0 : Hid (¬ leC a c s m d n f = 0 → clC a c s m d n f = leC a c s m d n f ∧ clV a c s m d n f = 0) := Lib.hid fun h => by
    have e : clC a c s m d n f = leC a c s m d n f := if_neg h
    exact ⟨e, by unfold clV; rw [e, if_neg h]⟩
  have V1 : Hid (leC a c s m d n f = 0 → clN a c d n f < 1 → clC a c s m d n f = 3 ∧ clV a c s m d n f = 0) := Lib.hid fun h h1 => by
    have e : clC a c s m d n f = 3 := by unfold clC; rw [if_pos h, if_pos h1]
    exact ⟨e, by unfold clV; rw [e]; rfl⟩
  have V2 : Hid (leC a c s m d n f = 0 → ¬ clN a c d n f < 1 → clC a c s m d n f = 0 ∧ clV a c s m d n f = clN a c d n f) := Lib.hid fun h h1 => by
    have e : clC a c s m d n f = 0 := by unfold clC; rw [if_pos h, if_neg h1]
    exact ⟨e, by unfold clV; rw [if_pos e]⟩
  unfold IAt
  generalize clC a c s m d n f = rc at V0 V1 V2 ⊢
  generalize clV a c s m d n f = rv at V0 V1 V2 ⊢
  unfold clN at V1 V2
  generalize leC a c s m d n f = C at CC V0 V1 V2 CS CI
  generalize st a c d f = x at CS CI V1 V2
  go_enter Try.func34, Try.ntmps34
  go_upto_region 2 with fail
  generalize hw9 : World.alloc _ _ = w0 at BX ⊢
  clear hw9
  obtain ⟨z0, z1, z2, z3, z4⟩ := blk5 BX.out.frc
  go_wp2_with fail
  refine (CC.out _).mono ?_
  rintro e w1 ⟨rfl, b1⟩
  have BX1 := Lib.hid (BX.out.below b1)
  clear b1 BX CC z0 z1 z2 z3 z4
  by_cases h0 : C = 0
  rotate_left
  · have hne : (C != 0) = true := by simpa using h0
    obtain ⟨r1, r2⟩ := V0.out h0
    have R1 := Lib.hid r1
    have R2 := Lib.hid r2
    clear V0 V1 V2 CS CI r1 r2
    go_wp2_with fail
    exact bodyPost_ret (v := .tuple #[.int .i64 0, .int .i64 C]) (by simp [results, Try.results34, go_sem]) rfl ⟨by rw [R1.out, R2.out], BX1.out.bel⟩
  subst h0
  obtain ⟨a1, a2, a3, a4, a5, a6, a7⟩ := CI.out rfl
  have CS1 := Lib.hid (CS.out rfl)
  have X1 := Lib.hid (V1.out rfl)
  have X2 := Lib.hid (V2.out rfl)
  clear V0 V1 V2 CS CI
  have FL := Lib.hid (fun w => Fg.ifloor (n * 40000) (40000 + x) (by omega) (by omega) (by omega) (by omega) w)
  have HFL : Hid (Fg.fl (n * 40000) (40000 + x) = 40000 * n / (40000 + x)) := Lib.hid (by
    unfold Fg.fl
    rw [Int.mul_comm n]
    rw [if_neg (by have := Int.tmod_nonneg (40000 + x) (show 0 ≤ 40000 * n by omega); omega)]
    exact Int.tdiv_eq_ediv_of_nonneg (by omega))
  rw [HFL.out] at FL
  generalize 40000 * n / (40000 + x) = q at FL X1 X2
  generalize 40000 + x = y at CS1 FL
  obtain ⟨z0, z1, z2, z3, z4⟩ := blk5 BX1.out.frc
  go_wp2_with fail
  refine (CS1.out _).mono ?_
  rintro e w2 ⟨rfl, b2⟩
  have BX2 := Lib.hid ((BX1.out.below b2).below (below_box w2 (frO y 40000)))
  have KF := Lib.hid (heap_alloc_new w2 (frO y 40000))
  clear b2 BX1 CS1 z0 z1 z2 z3 z4
  go_upto_region 6 with fail
  generalize hw9 : World.alloc _ _ = w3 at BX2 KF ⊢
  clear hw9
  generalize w2.heap.size = g2 at *
  obtain ⟨y0, y1⟩ := blk2 KF.out
  go_wp2_with fail
  refine (FL.out _).mono ?_
  rintro e w4 ⟨rfl, rfl⟩
  clear KF FL HFL y0 y1
  by_cases h1 : q < 1
  · obtain ⟨r1, r2⟩ := X1.out h1
    have R1 := Lib.hid r1
    have R2 := Lib.hid r2
    clear X1 X2 r1 r2
    go_wp2_with fail
    exact bodyPost_ret (v := .tuple #[.int .i64 0, .int .i64 3]) (by simp [results, Try.results34, go_sem]) rfl ⟨by rw [R1.out, R2.out], BX2.out.bel⟩
  · obtain ⟨r1, r2⟩ := X2.out (by omega)
    have R1 := Lib.hid r1
    have R2 := Lib.hid r2
    clear X1 X2 r1 r2
    go_wp2_with fail
    exact bodyPost_ret (v := .tuple #[.int .i64 q, .int .i64 0]) (by simp [results, Try.results34, go_sem]) rfl ⟨by rw [R1.out, R2.out], BX2.out.bel⟩
end Go.Proofs.Ytgclhkiiaclkgaa.P4
