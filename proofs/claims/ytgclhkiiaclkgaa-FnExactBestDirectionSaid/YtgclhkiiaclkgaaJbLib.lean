/- Leathers: the spec's StretchOf, LengthUnder, LengthAfter, CutLength, GreatestPull. -/
import Derived.Test.YtgclhkiiaclkgaaJaLib
namespace Go.Proofs.Ytgclhkiiaclkgaa.Jb
set_option linter.unusedVariables false
open Go.RowKit Qb Ja
open Go.Proofs.Ytgclhkiiaclkgaa.Ba (inB below_then below_box blk_keep blk2 blk4 blk_free ret_bool ret_int)

abbrev frO (a b : Int) : Obj := .cells #[.int .i64 a, .int .i64 b] 29
/-- What stays: all that lay before, a leather's box, a fraction's box. -/
structure Bx2 (w wr : World) (o o2 : Obj) : Prop where
  bel : Below w.heap.size w wr
  box : wr.heap[w.heap.size]? = some o
  frc : wr.heap[w.heap.size + 1]? = some o2
theorem Bx2.of (w : World) (o o2 : Obj) : Bx2 w ((w.alloc o).alloc o2) o o2 := by
  refine ⟨((Below.refl _ _).alloc (Nat.le_refl _) _).alloc (by simp) _, blk_keep (below_box (w.alloc o) o2) (heap_alloc_new w o), ?_⟩
  have := heap_alloc_new (w.alloc o) o2
  rw [World.size_alloc] at this
  exact this
theorem Bx2.below {w wr w' : World} {o o2 : Obj} (h : Bx2 w wr o o2) (hb : Below wr.heap.size wr w') : Bx2 w w' o o2 := ⟨below_then h.bel hb, blk_keep hb h.box, blk_keep hb h.frc⟩
theorem lec_st {a c s m d n f : Int} (h : leC a c s m d n f = 0) : (0 ≤ a ∧ a ≤ 100) ∧ (0 ≤ c ∧ c ≤ 100) ∧ (0 ≤ s ∧ s ≤ 1000) ∧ (0 ≤ d ∧ d ≤ 4) ∧ (1 ≤ n ∧ n ≤ 10000) ∧ (0 ≤ f ∧ f ≤ 1000) ∧ (0 ≤ st a c d f ∧ st a c d f ≤ 20000) := by
  obtain ⟨h1, h2, h3⟩ := lec_ok h
  obtain ⟨a1, a2, a3, a4⟩ := le_in h1
  obtain ⟨b1, b2, b3⟩ := as_in h2
  have := st_in a1 a2 b1 b3
  exact ⟨a1, a2, a3, b1, b2, b3, by omega⟩
noncomputable def qA (C x y : Int) : Int := if C = 0 then x / Nh.gc x y else 0
noncomputable def qB (C x y : Int) : Int := if C = 0 then y / Nh.gc x y else 0
def QAt (C x y : Int) (w : World) (e : Ending) (w' : World) : Prop := e = .returned (.tuple #[.agg #[.int .i64 (qA C x y), .int .i64 (qB C x y)], .int .i64 C]) ∧ Below w.heap.size w w'
theorem q_no {C x y : Int} {w : World} (h : ¬ C = 0) : ∀ W, Below w.heap.size w W → QAt C x y w (.returned (.tuple #[.agg #[.int .i64 0, .int .i64 0], .int .i64 C])) W := fun W hb => by
  refine ⟨?_, hb⟩
  unfold qA qB
  rw [if_neg h, if_neg h]
theorem q_yes {C x y : Int} {w : World} (h : C = 0) : ∀ W, Below w.heap.size w W → QAt C x y w (.returned (.tuple #[.agg #[.int .i64 (x / Nh.gc x y), .int .i64 (y / Nh.gc x y)], .int .i64 0])) W := fun W hb => by
  subst h
  refine ⟨?_, hb⟩
  unfold qA qB
  rw [if_pos rfl, if_pos rfl]

set_option maxHeartbeats 1000000 in
theorem spec_so (a c s m d f : Int) (w : World) : Calls Try.prog 18 #[leV a c s m, .int .i64 d, .int .i64 f] w (QAt (leC a c s m d 1 f) (st a c d f) 40 w) := by
  have BX := Lib.hid (Bx2.of w (leO a c s m) (frO 0 0))
  have CC := Lib.hid (fun w => code_any a c s m d 1 f w)
  have V0 := Lib.hid (fun h => q_no (C := leC a c s m d 1 f) (x := st a c d f) (y := 40) (w := w) h)
  have V1 := Lib.hid (fun h => q_yes (C := leC a c s m d 1 f) (x := st a c d f) (y := 40) (w := w) h)
  have CI := Lib.hid (fun h => lec_st (a := a) (c := c) (s := s) (m := m) (d := d) (n := 1) (f := f) h)
  have CS := Lib.hid (fun (h : leC a c s m d 1 f = 0) w => stretch_any a c s m d f (lec_st h).1 (lec_st h).2.1 (lec_st h).2.2.2.1 (lec_st h).2.2.2.2.2.1 w)
  generalize QAt (leC a c s m d 1 f) (st a c d f) 40 w = Q at V0 V1 ⊢
  generalize leC a c s m d 1 f = C at CC V0 V1 CI CS
  generalize st a c d f = x at CS V1 CI
  go_enter Try.func18, Try.ntmps18
  go_upto_region 1 with fail
  generalize hw9 : World.alloc _ _ = w0 at BX ⊢
  clear hw9
  obtain ⟨z0, z1, z2, z3⟩ := blk4 BX.out.box
  go_wp2_with fail
  refine (CC.out _).mono ?_
  rintro e w1 ⟨rfl, b1⟩
  have BX1 := Lib.hid (BX.out.below b1)
  clear b1 BX CC z0 z1 z2 z3
  by_cases h0 : C = 0
  rotate_left
  · have hne : (C != 0) = true := by simpa using h0
    have HF := Lib.hid (V0.out h0 _ ((BX1.out.bel.setCell (p := ⟨w.heap.size + 1, 0, none⟩) (Nat.le_succ _) (.int .i64 0)).setCell (p := ⟨w.heap.size + 1, 1, none⟩) (Nat.le_succ _) (.int .i64 0)))
    have hfr := blk_free BX1.out.frc
    obtain ⟨z0, z1⟩ := blk2 BX1.out.frc
    clear V0 V1 CI CS
    go_wp2_with fail
    exact bodyPost_ret (v := .tuple #[.agg #[.int .i64 0, .int .i64 0], .int .i64 C]) (by simp [results, Try.results18, go_sem, z0, z1]) rfl HF.out
  subst h0
  obtain ⟨a1, a2, a3, a4, a5, a6, a7⟩ := CI.out rfl
  have CS1 := Lib.hid (CS.out rfl)
  have X1 := Lib.hid (V1.out rfl)
  have MK := Lib.hid (fun w => Fr.make_any (x) 40 (by omega) (by omega) (by omega) (by omega) w)
  generalize (x) / Nh.gc (x) 40 = fa at X1 MK
  generalize 40 / Nh.gc (x) 40 = fb at X1 MK
  clear V0 V1 CI CS
  obtain ⟨z0, z1, z2, z3⟩ := blk4 BX1.out.box
  go_wp2_with fail
  refine (CS1.out _).mono ?_
  rintro e w2 ⟨rfl, b2⟩
  have BX2 := Lib.hid (BX1.out.below b2)
  clear b2 BX1 CS1 z0 z1 z2 z3
  go_wp2_with fail
  refine (MK.out _).mono ?_
  rintro e w3 ⟨rfl, b3⟩
  have BX3 := Lib.hid (BX2.out.below b3)
  clear b3 BX2 MK
  have HF := Lib.hid (X1.out _ ((BX3.out.bel.setCell (p := ⟨w.heap.size + 1, 0, none⟩) (Nat.le_succ _) (.int .i64 fa)).setCell (p := ⟨w.heap.size + 1, 1, none⟩) (Nat.le_succ _) (.int .i64 fb)))
  have hfr := blk_free BX3.out.frc
  obtain ⟨z0, z1⟩ := blk2 BX3.out.frc
  clear X1
  go_wp2_with fail
  exact bodyPost_ret (v := .tuple #[.agg #[.int .i64 fa, .int .i64 fb], .int .i64 0]) (by simp [results, Try.results18, go_sem, z0, z1]) rfl HF.out

set_option maxHeartbeats 1000000 in
theorem spec_lu (a c s m d n f : Int) (w : World) : Calls Try.prog 21 #[leV a c s m, .int .i64 d, .int .i64 n, .int .i64 f] w (QAt (leC a c s m d n f) (n * (40000 + st a c d f)) 40000 w) := by
  have BX := Lib.hid (Bx2.of w (leO a c s m) (frO 0 0))
  have CC := Lib.hid (fun w => code_any a c s m d n f w)
  have V0 := Lib.hid (fun h => q_no (C := leC a c s m d n f) (x := n * (40000 + st a c d f)) (y := 40000) (w := w) h)
  have V1 := Lib.hid (fun h => q_yes (C := leC a c s m d n f) (x := n * (40000 + st a c d f)) (y := 40000) (w := w) h)
  have CI := Lib.hid (fun h => lec_st (a := a) (c := c) (s := s) (m := m) (d := d) (n := n) (f := f) h)
  have CS := Lib.hid (fun (h : leC a c s m d n f = 0) w => stretch_any a c s m d f (lec_st h).1 (lec_st h).2.1 (lec_st h).2.2.2.1 (lec_st h).2.2.2.2.2.1 w)
  generalize QAt (leC a c s m d n f) (n * (40000 + st a c d f)) 40000 w = Q at V0 V1 ⊢
  generalize leC a c s m d n f = C at CC V0 V1 CI CS
  generalize st a c d f = x at CS V1 CI
  go_enter Try.func21, Try.ntmps21
  go_upto_region 1 with fail
  generalize hw9 : World.alloc _ _ = w0 at BX ⊢
  clear hw9
  obtain ⟨z0, z1, z2, z3⟩ := blk4 BX.out.box
  go_wp2_with fail
  refine (CC.out _).mono ?_
  rintro e w1 ⟨rfl, b1⟩
  have BX1 := Lib.hid (BX.out.below b1)
  clear b1 BX CC z0 z1 z2 z3
  by_cases h0 : C = 0
  rotate_left
  · have hne : (C != 0) = true := by simpa using h0
    have HF := Lib.hid (V0.out h0 _ ((BX1.out.bel.setCell (p := ⟨w.heap.size + 1, 0, none⟩) (Nat.le_succ _) (.int .i64 0)).setCell (p := ⟨w.heap.size + 1, 1, none⟩) (Nat.le_succ _) (.int .i64 0)))
    have hfr := blk_free BX1.out.frc
    obtain ⟨z0, z1⟩ := blk2 BX1.out.frc
    clear V0 V1 CI CS
    go_wp2_with fail
    exact bodyPost_ret (v := .tuple #[.agg #[.int .i64 0, .int .i64 0], .int .i64 C]) (by simp [results, Try.results21, go_sem, z0, z1]) rfl HF.out
  subst h0
  obtain ⟨a1, a2, a3, a4, a5, a6, a7⟩ := CI.out rfl
  have CS1 := Lib.hid (CS.out rfl)
  have X1 := Lib.hid (V1.out rfl)
  have y1 := prod_le (show 0 ≤ n ∧ n ≤ 10000 by omega) (show 0 ≤ 40000 + x ∧ 40000 + x ≤ 60000 by omega)
  have t1 : IntKind.i64.wrap (n * (40000 + x)) = n * (40000 + x) := IntWalk.i64_in _ (by omega)
  have MK := Lib.hid (fun w => Fr.make_any (n * (40000 + x)) 40000 (by omega) (by omega) (by omega) (by omega) w)
  generalize (n * (40000 + x)) / Nh.gc (n * (40000 + x)) 40000 = fa at X1 MK
  generalize 40000 / Nh.gc (n * (40000 + x)) 40000 = fb at X1 MK
  clear V0 V1 CI CS
  obtain ⟨z0, z1, z2, z3⟩ := blk4 BX1.out.box
  go_wp2_with fail
  refine (CS1.out _).mono ?_
  rintro e w2 ⟨rfl, b2⟩
  have BX2 := Lib.hid (BX1.out.below b2)
  clear b2 BX1 CS1 z0 z1 z2 z3
  go_wp2_with fail
  refine (MK.out _).mono ?_
  rintro e w3 ⟨rfl, b3⟩
  have BX3 := Lib.hid (BX2.out.below b3)
  clear b3 BX2 MK
  have HF := Lib.hid (X1.out _ ((BX3.out.bel.setCell (p := ⟨w.heap.size + 1, 0, none⟩) (Nat.le_succ _) (.int .i64 fa)).setCell (p := ⟨w.heap.size + 1, 1, none⟩) (Nat.le_succ _) (.int .i64 fb)))
  have hfr := blk_free BX3.out.frc
  obtain ⟨z0, z1⟩ := blk2 BX3.out.frc
  clear X1
  go_wp2_with fail
  exact bodyPost_ret (v := .tuple #[.agg #[.int .i64 fa, .int .i64 fb], .int .i64 0]) (by simp [results, Try.results21, go_sem, z0, z1]) rfl HF.out

/-- The length that a piece keeps. -/
def af (a c s d n f : Int) : Int := Fg.fl (2 * (n * (40000000 + st a c d f * s)) + 40000000) (2 * 40000000)
set_option maxHeartbeats 1000000 in
theorem after_any (a c s m d n f : Int) (ha : 0 ≤ a ∧ a ≤ 100) (hc : 0 ≤ c ∧ c ≤ 100) (hd : 0 ≤ d ∧ d ≤ 4) (hf : 0 ≤ f ∧ f ≤ 1000) (hs : 0 ≤ s ∧ s ≤ 1000) (hn : 0 ≤ n ∧ n ≤ 10000) (w : World) : Calls Try.prog 56 #[leV a c s m, .int .i64 d, .int .i64 n, .int .i64 f] w fun e w' => e = .returned (.int .i64 (af a c s d n f)) ∧ Below w.heap.size w w' := by
  have BX := Lib.hid (Bx.of w (leO a c s m))
  have CS := Lib.hid (fun w => stretch_any a c s m d f ha hc hd hf w)
  have hx := st_in ha hc hd hf
  unfold af
  generalize st a c d f = x at CS hx ⊢
  have p1 := prod_le hx hs
  have p2 := prod_le hn (show 0 ≤ 40000000 + x * s ∧ 40000000 + x * s ≤ 840000000 by omega)
  have t1 : IntKind.i64.wrap (x * s) = x * s := IntWalk.i64_in _ (by omega)
  have t2 : IntKind.i64.wrap (n * (40000000 + x * s)) = n * (40000000 + x * s) := IntWalk.i64_in _ (by omega)
  have MK := Lib.hid (fun w => Fg.near_spec (n * (40000000 + x * s)) 40000000 (by omega) (by omega) (by omega) (by omega) w)
  generalize Fg.fl (2 * (n * (40000000 + x * s)) + 40000000) (2 * 40000000) = r at MK ⊢
  go_enter Try.func56, Try.ntmps56
  go_upto_region 1 with fail
  generalize hw9 : World.alloc _ _ = w0 at BX ⊢
  clear hw9
  have CS1 := Lib.hid (fun p : Beyond w0 => CS.out p.to)
  have MK1 := Lib.hid (fun p : Beyond w0 => MK.out p.to)
  obtain ⟨z0, z1, z2, z3⟩ := blk4 BX.out.box
  have z0' := bey_cell z0
  have z1' := bey_cell z1
  have z2' := bey_cell z2
  have z3' := bey_cell z3
  clear z0 z1 z2 z3 CS MK
  refine wp_region_below (by kernel_rfl) (by kernel_rfl) ?_
  repeat (go_big_quiet_step (first | (go_at_call 51; with_reducible exact bey_of _ (CS1.out _)) | (go_at_call 85; with_reducible exact bey_same _ (MK1.out _))))
  refine wpQuiet_nil ?_
  rintro _ ⟨pq, rfl⟩
  have HQ := Lib.hid (below_then BX.out.bel pq.h)
  generalize pq.to = wq at HQ ⊢
  go_wp2_with fail
  go_ret
  exact ⟨rfl, HQ.out⟩
def IAt (v C : Int) (w : World) (e : Ending) (w' : World) : Prop := e = .returned (.tuple #[.int .i64 v, .int .i64 C]) ∧ Below w.heap.size w w'

def spec_laV (a c s m d n f : Int) : Int := if leC a c s m d n f = 0 then af a c s d n f else 0
set_option maxHeartbeats 1000000 in
theorem spec_la (a c s m d n f : Int) (w : World) : Calls Try.prog 23 #[leV a c s m, .int .i64 d, .int .i64 n, .int .i64 f] w (IAt (spec_laV a c s m d n f) (leC a c s m d n f) w) := by
  have BX := Lib.hid (Bx.of w (leO a c s m))
  have CC := Lib.hid (fun w => code_any a c s m d n f w)
  have CA := Lib.hid (fun (h : leC a c s m d n f = 0) w => after_any a c s m d n f (lec_st h).1 (lec_st h).2.1 (lec_st h).2.2.2.1 (lec_st h).2.2.2.2.2.1 (lec_st h).2.2.1 (And.intro (by have := (lec_st h).2.2.2.2.1; omega) (lec_st h).2.2.2.2.1.2) w)
  have V0 : Hid (¬ leC a c s m d n f = 0 → spec_laV a c s m d n f = 0) := Lib.hid fun h => if_neg h
  have V1 : Hid (leC a c s m d n f = 0 → spec_laV a c s m d n f = af a c s d n f) := Lib.hid fun h => if_pos h
  unfold IAt
  generalize spec_laV a c s m d n f = r at V0 V1 ⊢
  generalize leC a c s m d n f = C at CC V0 V1 CA ⊢
  generalize af a c s d n f = x at CA V1
  go_enter Try.func23, Try.ntmps23
  go_upto_region 1 with fail
  generalize hw9 : World.alloc _ _ = w0 at BX ⊢
  clear hw9
  obtain ⟨z0, z1, z2, z3⟩ := blk4 BX.out.box
  go_wp2_with fail
  refine (CC.out _).mono ?_
  rintro e w1 ⟨rfl, b1⟩
  have BX1 := Lib.hid (BX.out.below b1)
  clear b1 BX CC z0 z1 z2 z3
  by_cases h0 : C = 0
  rotate_left
  · have hne : (C != 0) = true := by simpa using h0
    have HR := Lib.hid (V0.out h0)
    clear V0 V1 CA
    go_wp2_with fail
    exact bodyPost_ret (v := .tuple #[.int .i64 0, .int .i64 C]) (by simp [results, Try.results23, go_sem]) rfl ⟨by rw [HR.out], BX1.out.bel⟩
  subst h0
  have HR := Lib.hid (V1.out rfl)
  have CA1 := Lib.hid (CA.out rfl)
  clear V0 V1 CA
  obtain ⟨z0, z1, z2, z3⟩ := blk4 BX1.out.box
  go_wp2_with fail
  refine (CA1.out _).mono ?_
  rintro e w2 ⟨rfl, b2⟩
  have HF := Lib.hid (below_then BX1.out.bel b2)
  clear b2 BX1 CA1 z0 z1 z2 z3
  go_wp2_with fail
  exact bodyPost_ret (v := .tuple #[.int .i64 x, .int .i64 0]) (by simp [results, Try.results23, go_sem]) rfl ⟨by rw [HR.out], HF.out⟩

/-- The longest length that a pull leaves in the length wanted. -/
def clN (a c d n f : Int) : Int := (40000 * n) / (40000 + st a c d f)
def clC (a c s m d n f : Int) : Int := if leC a c s m d n f = 0 then (if clN a c d n f < 1 then 3 else 0) else leC a c s m d n f
def clV (a c s m d n f : Int) : Int := if clC a c s m d n f = 0 then clN a c d n f else 0
set_option maxHeartbeats 1000000 in
theorem spec_cl (a c s m d n f : Int) (w : World) : Calls Try.prog 33 #[leV a c s m, .int .i64 d, .int .i64 n, .int .i64 f] w (IAt (clV a c s m d n f) (clC a c s m d n f) w) := by
  have BX := Lib.hid (Bx.of w (leO a c s m))
  have CC := Lib.hid (fun w => code_any a c s m d n f w)
  have CI := Lib.hid (fun h => lec_st (a := a) (c := c) (s := s) (m := m) (d := d) (n := n) (f := f) h)
  have CS := Lib.hid (fun (h : leC a c s m d n f = 0) w => stretch_any a c s m d f (lec_st h).1 (lec_st h).2.1 (lec_st h).2.2.2.1 (lec_st h).2.2.2.2.2.1 w)
  have V0 : Hid (¬ leC a c s m d n f = 0 → clC a c s m d n f = leC a c s m d n f ∧ clV a c s m d n f = 0) := Lib.hid fun h => by
    have e : clC a c s m d n f = leC a c s m d n f := if_neg h
    exact ⟨e, by unfold clV; rw [e, if_neg h]⟩
  have V1 : Hid (leC a c s m d n f = 0 → clN a c d n f < 1 → clC a c s m d n f = 3 ∧ clV a c s m d n f = 0) := Lib.hid fun h h1 => by
    have e : clC a c s m d n f = 3 := by unfold clC; rw [if_pos h, if_pos h1]
    exact ⟨e, by unfold clV; rw [e]; rfl⟩
  have V2 : Hid (leC a c s m d n f = 0 → ¬ clN a c d n f < 1 → clC a c s m d n f = 0 ∧ clV a c s m d n f = clN a c d n f) := Lib.hid fun h h1 => by
    have e : clC a c s m d n f = 0 := by unfold clC; rw [if_pos h, if_neg h1]
    exact ⟨e, by unfold clV; rw [if_pos e]⟩
  unfold IAt
  generalize clC a c s m d n f = rc at V0 V1 V2 ⊢
  generalize clV a c s m d n f = rv at V0 V1 V2 ⊢
  unfold clN at V1 V2
  generalize leC a c s m d n f = C at CC V0 V1 V2 CS CI
  generalize st a c d f = x at CS CI V1 V2
  go_enter Try.func33, Try.ntmps33
  go_upto_region 1 with fail
  generalize hw9 : World.alloc _ _ = w0 at BX ⊢
  clear hw9
  obtain ⟨z0, z1, z2, z3⟩ := blk4 BX.out.box
  go_wp2_with fail
  refine (CC.out _).mono ?_
  rintro e w1 ⟨rfl, b1⟩
  have BX1 := Lib.hid (BX.out.below b1)
  clear b1 BX CC z0 z1 z2 z3
  by_cases h0 : C = 0
  rotate_left
  · have hne : (C != 0) = true := by simpa using h0
    obtain ⟨r1, r2⟩ := V0.out h0
    have R1 := Lib.hid r1
    have R2 := Lib.hid r2
    clear V0 V1 V2 CS CI r1 r2
    go_wp2_with fail
    exact bodyPost_ret (v := .tuple #[.int .i64 0, .int .i64 C]) (by simp [results, Try.results33, go_sem]) rfl ⟨by rw [R1.out, R2.out], BX1.out.bel⟩
  subst h0
  obtain ⟨a1, a2, a3, a4, a5, a6, a7⟩ := CI.out rfl
  have CS1 := Lib.hid (CS.out rfl)
  have X1 := Lib.hid (V1.out rfl)
  have X2 := Lib.hid (V2.out rfl)
  clear V0 V1 V2 CS CI
  have q1 : 0 ≤ 40000 * n / (40000 + x) := Int.ediv_nonneg (by omega) (by omega)
  have q2 : 40000 * n / (40000 + x) ≤ 40000 * n := Int.ediv_le_self _ (by omega)
  have q3 : (40000 + x == 0) = false := by simp; omega
  have q4 : ¬ (40000 + x = 0) := by omega
  have q5 : (40000 * n).tdiv (40000 + x) = 40000 * n / (40000 + x) := Int.tdiv_eq_ediv_of_nonneg (by omega)
  obtain ⟨z0, z1, z2, z3⟩ := blk4 BX1.out.box
  go_wp2_with fail
  refine (CS1.out _).mono ?_
  rintro e w2 ⟨rfl, b2⟩
  have HF := Lib.hid (below_then BX1.out.bel b2)
  clear b2 BX1 CS1 z0 z1 z2 z3
  by_cases h1 : 40000 * n / (40000 + x) < 1
  · obtain ⟨r1, r2⟩ := X1.out h1
    have R1 := Lib.hid r1
    have R2 := Lib.hid r2
    clear X1 X2 r1 r2
    go_wp2_with fail
    exact bodyPost_ret (v := .tuple #[.int .i64 0, .int .i64 3]) (by simp [results, Try.results33, go_sem]) rfl ⟨by rw [R1.out, R2.out], HF.out⟩
  · obtain ⟨r1, r2⟩ := X2.out (by omega)
    have R1 := Lib.hid r1
    have R2 := Lib.hid r2
    clear X1 X2 r1 r2
    go_wp2_with fail
    exact bodyPost_ret (v := .tuple #[.int .i64 (40000 * n / (40000 + x)), .int .i64 0]) (by simp [results, Try.results33, go_sem]) rfl ⟨by rw [R1.out, R2.out], HF.out⟩
end Go.Proofs.Ytgclhkiiaclkgaa.Jb
