/- RoundStrips, AllowArea: both functions. -/
import Derived.Test.YtpmmfalpcooenaaDoorC9cLib
import Derived.Test.YtpmmfalpcooenaaDoorC9fLib
namespace Go.Proofs.YtpmmfalpcooenaaDoor.C9r
set_option linter.unusedVariables false
open Go.RowKit Go.Shelf Ft Is Ge Qb Stv Er Ow It C9c
attribute [local go_sem] Oper.semAt_some

/-- The sum over some edges. -/
def ls (g : Nat → Int) (l : List Nat) : Int := (l.map g).sum
theorem ls_snoc (g : Nat → Int) (l : List Nat) (x : Nat) : ls g (l ++ [x]) = ls g l + g x := by simp [ls]
theorem ls_in {g : Nat → Int} {a : Int} (h : ∀ k, 0 ≤ g k ∧ g k ≤ a) : ∀ l : List Nat, 0 ≤ ls g l ∧ ls g l ≤ a * (l.length : Int)
  | [] => by simp [ls]
  | x :: l => by
    have h1 := ls_in h l
    have h2 := h x
    have e : a * (((x :: l).length : Nat) : Int) = a * (l.length : Int) + a := by rw [List.length_cons, Int.natCast_add, Int.mul_add]; simp
    have e2 : ls g (x :: l) = g x + ls g l := by simp [ls]
    rw [e, e2]
    omega
theorem ls_range (g : Nat → Int) (n : Nat) : ls g (List.range n) = C9f.sm g n := by
  induction n with
  | zero => rfl
  | succ n ih => rw [List.range_succ, ls_snoc, ih]; rfl
/-- The area of an edge's allowance, twice. -/
def ar (n : Nat) (f : Nat → Int) (k : Nat) : Int := s n f k 1 * (s n f k 0 + cl n f k)
theorem ar_in {n : Nat} {f : Nat → Int} (h : StP n f) (k : Nat) : 0 ≤ ar n f k ∧ ar n f k ≤ 2080000 := by
  obtain ⟨h0, h1, h2, h3⟩ := s_in h k
  have h4 := cl_in h k
  have a1 := Int.mul_nonneg h1.1 (b := s n f k 0 + cl n f k) (by omega)
  have a2 := Int.mul_le_mul h1.2 (d := 10400) (b := s n f k 0 + cl n f k) (by omega) (by omega) (by omega)
  unfold ar
  omega
set_option maxRecDepth 100000 in
set_option maxHeartbeats 2000000 in
theorem round_yes (A : Option Addr) (n c : Nat) (f : Nat → Int) (hP : StP n f) (w : World) (hV : V3 w) (hA : Nums w w.heap.size A (n * 4) f) :
    Calls Tryd.prog 26 #[.slice A n c] w fun e w' => e = .returned (.tuple #[.int .i64 (C9f.sm (fun k => s n f k 0) n), .int .i64 (C9f.sm (cl n f) n), .int .i64 0]) ∧ Below w.heap.size w w' := by
  have h3 : 3 ≤ n := hP.2.1
  have h12 : n ≤ 12 := hP.2.2
  have C0 := Lib.hid (Es.check_strips A n c f (by omega) w hA hV.cnt hV.out)
  rw [tv_yes hP] at C0
  have CC := Lib.hid (fun x hx W (hb : Below w.heap.size w W) => code_of 1 true x hx W (hV.ety.below hb))
  simp only [if_true] at CC
  obtain ⟨b, off, rfl, hb, hc⟩ := hA (by omega)
  have HC := Lib.hid hc
  clear hV hA hc
  refine (callsIn_wide (n := 3)).1 ?_
  refine callsIn_of_wp_marks Tryd.func26 rfl trivial ?_ rfl
  simp only [Tryd.ntmps26, List.size_toArray, List.length_cons, List.length_nil, Nat.reduceAdd, Nat.reduceSub, Array.replicate_succ, Array.replicate_zero, List.push_toArray, List.append_toArray, List.nil_append, List.cons_append]
  gi_wp2
  refine ⟨trivial, ((callsIn_wide (n := 2)).2 C0.out).mono ?_⟩
  rintro e w1 ⟨⟨x0, rfl, hx⟩, b1⟩
  have HB1 := Lib.hid b1
  have C1 := Lib.hid (CC.out x0 hx w1 HB1.out)
  clear b1 hx C0 CC
  gi_wp2
  refine ⟨trivial, ((callsIn_wide (n := 2)).2 C1.out).mono ?_⟩
  rintro e w2 ⟨rfl, b2⟩
  have HB2 := Lib.hid (below_then HB1.out b2)
  clear b2 C1 HB1
  have CS := fun W => (callsIn_wide (n := 2)).2 (cut_strips (some ⟨b, off, none⟩) n c W)
  gi_wp2
  refine ⟨trivial, (CS _).mono ?_⟩
  rintro e w3 ⟨rfl, rfl⟩
  gi_wp2
  obtain ⟨W0, hW0⟩ : ∃ W0, (((w2.alloc (.cells #[.int .i64 0] 2)).alloc (.cells #[.int .i64 0] 2)).alloc (.cells #[.slice (some ⟨b, off, none⟩) n c] 25)) = W0 := ⟨_, rfl⟩
  have bx0 := (((Boxed.new w2 2 (.int .i64 0)).alloc (.cells #[.int .i64 0] 2)).alloc (.cells #[.slice (some ⟨b, off, none⟩) n c] 25))
  have bx1 := ((Boxed.new (w2.alloc (.cells #[.int .i64 0] 2)) 2 (.int .i64 0)).alloc (.cells #[.slice (some ⟨b, off, none⟩) n c] 25))
  rw [World.size_alloc] at bx1
  have bN := Boxed.new ((w2.alloc (.cells #[.int .i64 0] 2)).alloc (.cells #[.int .i64 0] 2)) 25 (.slice (some ⟨b, off, none⟩) n c)
  rw [World.size_alloc, World.size_alloc] at bN
  have B0 : Below w2.heap.size w2 (((w2.alloc (.cells #[.int .i64 0] 2)).alloc (.cells #[.int .i64 0] 2)).alloc (.cells #[.slice (some ⟨b, off, none⟩) n c] 25)) := ((((Below.refl _ w2).alloc (Nat.le_refl _) _).alloc (by simp <;> omega) _).alloc (by simp <;> omega) _)
  have hsz : (((w2.alloc (.cells #[.int .i64 0] 2)).alloc (.cells #[.int .i64 0] 2)).alloc (.cells #[.slice (some ⟨b, off, none⟩) n c] 25)).heap.size = w2.heap.size + 3 := by simp
  rw [hW0] at bx0 bx1 bN B0 hsz ⊢
  have hb2 : b < w2.heap.size := Nat.lt_of_lt_of_le hb HB2.out.size
  have hcs : ∀ i, i < n * 4 → W0.cell? ⟨b, off + i, none⟩ = some (.int .i64 (f i)) := fun i hi => (B0.cell (p := ⟨b, off + i, none⟩) hb2).trans ((HB2.out.cell (p := ⟨b, off + i, none⟩) hb).trans (HC.out i hi))
  refine wpIn_rangeFunc_ownH rfl (by omega) (gf := 83) (lb := #[.pointer (some ⟨w2.heap.size + 1 + 1, 0, none⟩)]) rfl trivial (enters_of Tryd.func83 (by kernel_rfl) rfl)
    (stops 2 (by omega) (w2.heap.size + 1 + 1) w2.heap.size b off n c f hP W0 (by omega) (by omega) hb2 bN.cell hcs) belowK_t (belowK_b (by omega)) (Below.refl _ _) (fun _ => rfl)
    (fun pre W => Boxed W (w2.heap.size) 2 (.int .i64 (ls (fun k => s n f k 0) pre)) ∧ Boxed W (w2.heap.size + 1) 2 (.int .i64 (ls (cl n f) pre)) ∧ Below w2.heap.size w2 W)
    (fun _ _ _ => False)
    (OwnFrom.and (Own.from (boxed_own (w2.heap.size) 2 (fun pre : List Nat => Value.int .i64 (ls (fun k => s n f k 0) pre))) _) (OwnFrom.and (Own.from (boxed_own (w2.heap.size + 1) 2 (fun pre : List Nat => Value.int .i64 (ls (cl n f) pre))) _) (ownFrom_below (Nat.le_refl _) (by omega))))
    (fun _ _ _ _ _ hs _ _ => hs)
    ⟨bx0, bx1, B0⟩
    (fun x a' W => ∃ X, w2.heap.size + 1 < X ∧ W.heap[X]? = some (.cells #[.int .i64 (s n f x 0), .int .i64 (s n f x 1), .int .i64 (s n f x 2), .int .i64 (s n f x 3), .int .i64 (cl n f x)] 71 (0, 0)) ∧
      a' = { tmps := #[.slice (some ⟨b, off, none⟩) n c, undef, .int .i64 0, .int .i64 0, .int .i64 0, .int .i64 0, .pointer (some ⟨w2.heap.size, 0, none⟩), .pointer (some ⟨w2.heap.size + 1, 0, none⟩), .pointer (some ⟨X, 0, none⟩), .slice (some ⟨b, off, none⟩) n c, x0, .int .i64 0, .int .i64 0, .bool false, undef, .slice (some ⟨b, off, none⟩) n c, .func (.func 83) #[] #[.pointer (some ⟨w2.heap.size + 1 + 1, 0, none⟩)], en n f x, undef, undef, undef, undef, undef, undef, undef, undef, undef, undef, undef], defers := [] })
    (fun x a' => ax_own _ _ _ _ _) ?assign ?body ?done ?stop
  case assign =>
    rintro l pre x W K ⟨q0, q1, hB⟩ hK
    unfold en
    gi_wp2
    exact hK _ _ ((KeepsOthers.alloc _ _).from _) ((Below.refl _ W).alloc hB.size _) ⟨q0.alloc _, q1.alloc _, hB.alloc hB.size _⟩ ⟨W.heap.size, q1.lt, blk_new _ _, rfl⟩
  case body =>
    rintro l pre x a' W hl ⟨r, hr⟩ ⟨q0, q1, hB⟩ ⟨X, hX, kX, rfl⟩ hlt
    have c0 := q0.cell
    have f0 := q0.frozen
    have c1 := q1.cell
    have f1 := q1.frozen
    have z0 : W.cell? ⟨X, 0, none⟩ = some (.int .i64 (s n f x 0)) := cell_of_row _ _ _ _ _ _ kX
    have z1 : W.cell? ⟨X, 1, none⟩ = some (.int .i64 (s n f x 1)) := cell_of_row _ _ _ _ _ _ kX
    have z2 : W.cell? ⟨X, 2, none⟩ = some (.int .i64 (s n f x 2)) := cell_of_row _ _ _ _ _ _ kX
    have z3 : W.cell? ⟨X, 3, none⟩ = some (.int .i64 (s n f x 3)) := cell_of_row _ _ _ _ _ _ kX
    have z4 : W.cell? ⟨X, 4, none⟩ = some (.int .i64 (cl n f x)) := cell_of_row _ _ _ _ _ _ kX
    have i0 := ls_in (g := fun k => s n f k 0) (a := 5000) (fun k => (s_in hP k).1) pre
    have i1 := ls_in (g := cl n f) (a := 5400) (fun k => cl_in hP k) pre
    have j0 := (s_in hP x).1
    have j1 := cl_in hP x
    have t0 : IntKind.i64.wrap (ls (fun k => s n f k 0) pre + s n f x 0) = ls (fun k => s n f k 0) pre + s n f x 0 := IntWalk.i64_in _ (by omega)
    have t1 : IntKind.i64.wrap (ls (cl n f) pre + cl n f x) = ls (cl n f) pre + cl n f x := IntWalk.i64_in _ (by omega)
    have e0 : ls (fun k => s n f k 0) (pre ++ [x]) = ls (fun k => s n f k 0) pre + s n f x 0 := ls_snoc _ pre x
    have e1 : ls (cl n f) (pre ++ [x]) = ls (cl n f) pre + cl n f x := ls_snoc _ pre x
    generalize ls (fun k => s n f k 0) pre = u0 at *
    generalize ls (cl n f) pre = u1 at *
    generalize cl n f x = cx at *
    generalize s n f x 0 = s0 at *
    have r0 : Boxed ((W.setCell ⟨w2.heap.size, 0, none⟩ (.int .i64 (u0 + s0))).setCell ⟨w2.heap.size + 1, 0, none⟩ (.int .i64 (u1 + cx))) w2.heap.size 2 (.int .i64 (u0 + s0)) := (Boxed.set _ q0).other (by omega) _
    have r1 : Boxed ((W.setCell ⟨w2.heap.size, 0, none⟩ (.int .i64 (u0 + s0))).setCell ⟨w2.heap.size + 1, 0, none⟩ (.int .i64 (u1 + cx))) (w2.heap.size + 1) 2 (.int .i64 (u1 + cx)) := Boxed.set _ (q1.other (by omega) _)
    clear i0 i1 j0 j1
    gi_wp2
    exact ⟨((KeepsOthers.setCell _ _ _).trans (KeepsOthers.setCell _ _ _)).from _, ((Below.refl _ W).setCell (p := ⟨w2.heap.size, 0, none⟩) (Nat.le_refl _) _).setCell (p := ⟨w2.heap.size + 1, 0, none⟩) (Nat.le_succ _) _,
      by rw [e0]; exact r0, by rw [e1]; exact r1, (hB.setCell (p := ⟨w2.heap.size, 0, none⟩) (Nat.le_refl _) _).setCell (p := ⟨w2.heap.size + 1, 0, none⟩) (Nat.le_succ _) _⟩
  case done =>
    rintro D ys W hD rfl ⟨q0, q1, hB⟩ hK
    have c0 := q0.cell
    have c1 := q1.cell
    rw [ls_range] at c0 c1
    have hmx : Tryd.prog.follows .mixedOrders = true := by kernel_rfl
    gi_wp2
    gi_region_o
    all_goals gi_wp2
    all_goals (refine ⟨by simp, .inl ⟨_, _, rfl, run_takeDeferred (by first | exact hK | (simp only [World.drew]; exact hK)), ?_⟩⟩)
    all_goals exact ⟨.tuple #[.int .i64 (C9f.sm (fun k => s n f k 0) n), .int .i64 (C9f.sm (cl n f) n), .int .i64 0], by simp [results, Tryd.results26, go_sem], rfl, below_then HB2.out (hB.drew.trans (belowK_b (w := w2) (Nat.le_refl _) W.drew D _ _ (by omega) hK rfl rfl))⟩
  case stop =>
    rintro D c pre W _ _ h _
    exact h.elim
set_option maxRecDepth 100000 in
set_option maxHeartbeats 2000000 in
theorem area_yes (A : Option Addr) (n c : Nat) (f : Nat → Int) (hP : StP n f) (w : World) (hV : V3 w) (hA : Nums w w.heap.size A (n * 4) f) :
    Calls Tryd.prog 31 #[.slice A n c] w fun e w' => e = .returned (.tuple #[.int .i64 (C9f.sm (ar n f) n), .int .i64 0]) ∧ Below w.heap.size w w' := by
  have h3 : 3 ≤ n := hP.2.1
  have h12 : n ≤ 12 := hP.2.2
  have C0 := Lib.hid (Es.check_strips A n c f (by omega) w hA hV.cnt hV.out)
  rw [tv_yes hP] at C0
  have CC := Lib.hid (fun x hx W (hb : Below w.heap.size w W) => code_of 1 true x hx W (hV.ety.below hb))
  simp only [if_true] at CC
  obtain ⟨b, off, rfl, hb, hc⟩ := hA (by omega)
  have HC := Lib.hid hc
  clear hV hA hc
  refine (callsIn_wide (n := 3)).1 ?_
  refine callsIn_of_wp_marks Tryd.func31 rfl trivial ?_ rfl
  simp only [Tryd.ntmps31, List.size_toArray, List.length_cons, List.length_nil, Nat.reduceAdd, Nat.reduceSub, Array.replicate_succ, Array.replicate_zero, List.push_toArray, List.append_toArray, List.nil_append, List.cons_append]
  gi_wp2
  refine ⟨trivial, ((callsIn_wide (n := 2)).2 C0.out).mono ?_⟩
  rintro e w1 ⟨⟨x0, rfl, hx⟩, b1⟩
  have HB1 := Lib.hid b1
  have C1 := Lib.hid (CC.out x0 hx w1 HB1.out)
  clear b1 hx C0 CC
  gi_wp2
  refine ⟨trivial, ((callsIn_wide (n := 2)).2 C1.out).mono ?_⟩
  rintro e w2 ⟨rfl, b2⟩
  have HB2 := Lib.hid (below_then HB1.out b2)
  clear b2 C1 HB1
  have CS := fun W => (callsIn_wide (n := 2)).2 (cut_strips (some ⟨b, off, none⟩) n c W)
  gi_wp2
  refine ⟨trivial, (CS _).mono ?_⟩
  rintro e w3 ⟨rfl, rfl⟩
  gi_wp2
  obtain ⟨W0, hW0⟩ : ∃ W0, ((w2.alloc (.cells #[.int .i64 0] 2)).alloc (.cells #[.slice (some ⟨b, off, none⟩) n c] 25)) = W0 := ⟨_, rfl⟩
  have bx0 := ((Boxed.new w2 2 (.int .i64 0)).alloc (.cells #[.slice (some ⟨b, off, none⟩) n c] 25))
  have bN := Boxed.new (w2.alloc (.cells #[.int .i64 0] 2)) 25 (.slice (some ⟨b, off, none⟩) n c)
  rw [World.size_alloc] at bN
  have B0 : Below w2.heap.size w2 ((w2.alloc (.cells #[.int .i64 0] 2)).alloc (.cells #[.slice (some ⟨b, off, none⟩) n c] 25)) := (((Below.refl _ w2).alloc (Nat.le_refl _) _).alloc (by simp <;> omega) _)
  have hsz : ((w2.alloc (.cells #[.int .i64 0] 2)).alloc (.cells #[.slice (some ⟨b, off, none⟩) n c] 25)).heap.size = w2.heap.size + 2 := by simp
  rw [hW0] at bx0 bN B0 hsz ⊢
  have hb2 : b < w2.heap.size := Nat.lt_of_lt_of_le hb HB2.out.size
  have hcs : ∀ i, i < n * 4 → W0.cell? ⟨b, off + i, none⟩ = some (.int .i64 (f i)) := fun i hi => (B0.cell (p := ⟨b, off + i, none⟩) hb2).trans ((HB2.out.cell (p := ⟨b, off + i, none⟩) hb).trans (HC.out i hi))
  refine wpIn_rangeFunc_ownH rfl (by omega) (gf := 83) (lb := #[.pointer (some ⟨w2.heap.size + 1, 0, none⟩)]) rfl trivial (enters_of Tryd.func83 (by kernel_rfl) rfl)
    (stops 2 (by omega) (w2.heap.size + 1) w2.heap.size b off n c f hP W0 (by omega) (by omega) hb2 bN.cell hcs) belowK_t (belowK_b (by omega)) (Below.refl _ _) (fun _ => rfl)
    (fun pre W => Boxed W (w2.heap.size) 2 (.int .i64 (ls (ar n f) pre)) ∧ Below w2.heap.size w2 W)
    (fun _ _ _ => False)
    (OwnFrom.and (Own.from (boxed_own (w2.heap.size) 2 (fun pre : List Nat => Value.int .i64 (ls (ar n f) pre))) _) (ownFrom_below (Nat.le_refl _) (by omega)))
    (fun _ _ _ _ _ hs _ _ => hs)
    ⟨bx0, B0⟩
    (fun x a' W => ∃ X, w2.heap.size < X ∧ W.heap[X]? = some (.cells #[.int .i64 (s n f x 0), .int .i64 (s n f x 1), .int .i64 (s n f x 2), .int .i64 (s n f x 3), .int .i64 (cl n f x)] 71 (0, 0)) ∧
      a' = { tmps := #[.slice (some ⟨b, off, none⟩) n c, undef, .int .i64 0, .int .i64 0, .int .i64 0, .pointer (some ⟨w2.heap.size, 0, none⟩), .pointer (some ⟨X, 0, none⟩), .slice (some ⟨b, off, none⟩) n c, x0, .int .i64 0, .int .i64 0, .bool false, undef, .slice (some ⟨b, off, none⟩) n c, .func (.func 83) #[] #[.pointer (some ⟨w2.heap.size + 1, 0, none⟩)], en n f x, undef, undef, undef, undef, undef, undef, undef, undef, undef, undef, undef, undef, undef], defers := [] })
    (fun x a' => ax_own _ _ _ _ _) ?assign ?body ?done ?stop
  case assign =>
    rintro l pre x W K ⟨q0, hB⟩ hK
    unfold en
    gi_wp2
    exact hK _ _ ((KeepsOthers.alloc _ _).from _) ((Below.refl _ W).alloc hB.size _) ⟨q0.alloc _, hB.alloc hB.size _⟩ ⟨W.heap.size, q0.lt, blk_new _ _, rfl⟩
  case body =>
    rintro l pre x a' W hl ⟨r, hr⟩ ⟨q0, hB⟩ ⟨X, hX, kX, rfl⟩ hlt
    have c0 := q0.cell
    have f0 := q0.frozen
    have z0 : W.cell? ⟨X, 0, none⟩ = some (.int .i64 (s n f x 0)) := cell_of_row _ _ _ _ _ _ kX
    have z1 : W.cell? ⟨X, 1, none⟩ = some (.int .i64 (s n f x 1)) := cell_of_row _ _ _ _ _ _ kX
    have z2 : W.cell? ⟨X, 2, none⟩ = some (.int .i64 (s n f x 2)) := cell_of_row _ _ _ _ _ _ kX
    have z3 : W.cell? ⟨X, 3, none⟩ = some (.int .i64 (s n f x 3)) := cell_of_row _ _ _ _ _ _ kX
    have z4 : W.cell? ⟨X, 4, none⟩ = some (.int .i64 (cl n f x)) := cell_of_row _ _ _ _ _ _ kX
    have i0 := ls_in (g := ar n f) (a := 2080000) (fun k => ar_in hP k) pre
    have j0 := (s_in hP x).1
    have j1 := cl_in hP x
    have j2 := (s_in hP x).2.1
    have j3 := ar_in hP x
    have e0 := ls_snoc (ar n f) pre x
    have t0 : IntKind.i64.wrap (ls (ar n f) pre + ar n f x) = ls (ar n f) pre + ar n f x := IntWalk.i64_in _ (by omega)
    have t1 : IntKind.i64.wrap (s n f x 0 + cl n f x) = s n f x 0 + cl n f x := IntWalk.i64_in _ (by omega)
    have t2 : IntKind.i64.wrap (s n f x 1 * (s n f x 0 + cl n f x)) = s n f x 1 * (s n f x 0 + cl n f x) := IntWalk.i64_in _ (by unfold ar at j3; omega)
    unfold ar at t0 j3
    rw [show ar n f x = s n f x 1 * (s n f x 0 + cl n f x) from rfl] at e0
    simp only [show (fun k => s n f k 1 * (s n f k 0 + cl n f k)) = ar n f from rfl] at t0
    generalize ls (ar n f) pre = u0 at *
    generalize cl n f x = cx at *
    generalize s n f x 0 = s0 at *
    generalize s n f x 1 = s1 at *
    gi_wp2
    exact ⟨(KeepsOthers.setCell _ _ _).from _, (Below.refl _ W).setCell (p := ⟨w2.heap.size, 0, none⟩) (Nat.le_refl _) _,
      by rw [e0]; exact Boxed.set _ q0, hB.setCell (p := ⟨w2.heap.size, 0, none⟩) (Nat.le_refl _) _⟩
  case done =>
    rintro D ys W hD rfl ⟨q0, hB⟩ hK
    have c0 := q0.cell
    rw [ls_range] at c0
    gi_wp2
    refine ⟨by simp, .inl ⟨_, _, rfl, run_takeDeferred hK, ?_⟩⟩
    exact ⟨.tuple #[.int .i64 (C9f.sm (ar n f) n), .int .i64 0], by simp [results, Tryd.results31, go_sem], rfl, below_then HB2.out (hB.trans (belowK_b (w := w2) (Nat.le_refl _) W D _ _ (by omega) hK rfl rfl))⟩
  case stop =>
    rintro D c pre W _ _ h _
    exact h.elim
theorem round_no (A : Option Addr) (n c : Nat) (f : Nat → Int) (hn : n ≤ 1048576) (hP : ¬ StP n f) (w : World) (hV : V3 w) (hA : Nums w w.heap.size A (n * 4) f) :
    Calls Tryd.prog 26 #[.slice A n c] w fun e w' => e = .returned (.tuple #[.int .i64 0, .int .i64 0, .int .i64 1]) ∧ Below w.heap.size w w' := by
  have C0 := Lib.hid (Es.check_strips A n c f hn w hA hV.cnt hV.out)
  rw [tv_no hP] at C0
  have CC := Lib.hid (fun x hx W (hb : Below w.heap.size w W) => code_of 1 false x hx W (hV.ety.below hb))
  simp only [Bool.false_eq_true, if_false] at CC
  clear hV hA
  refine (callsIn_wide (n := 3)).1 ?_
  refine callsIn_of_wp_marks Tryd.func26 rfl trivial ?_ rfl
  simp only [Tryd.ntmps26, List.size_toArray, List.length_cons, List.length_nil, Nat.reduceAdd, Nat.reduceSub, Array.replicate_succ, Array.replicate_zero, List.push_toArray, List.append_toArray, List.nil_append, List.cons_append]
  gi_wp2
  refine ⟨trivial, ((callsIn_wide (n := 2)).2 C0.out).mono ?_⟩
  rintro e w1 ⟨⟨x0, rfl, hx⟩, b1⟩
  have HB1 := Lib.hid b1
  have C1 := Lib.hid (CC.out x0 hx w1 HB1.out)
  clear b1 hx C0 CC
  gi_wp2
  refine ⟨trivial, ((callsIn_wide (n := 2)).2 C1.out).mono ?_⟩
  rintro e w2 ⟨rfl, b2⟩
  have HB2 := Lib.hid (below_then HB1.out b2)
  clear b2 C1 HB1
  gi_wp2
  exact ⟨.tuple #[.int .i64 0, .int .i64 0, .int .i64 1], by simp [results, Tryd.results26, go_sem], rfl, HB2.out⟩
theorem allow_no (A : Option Addr) (n c : Nat) (f : Nat → Int) (hn : n ≤ 1048576) (hP : ¬ StP n f) (w : World) (hV : V3 w) (hA : Nums w w.heap.size A (n * 4) f) :
    Calls Tryd.prog 31 #[.slice A n c] w fun e w' => e = .returned (.tuple #[.int .i64 0, .int .i64 1]) ∧ Below w.heap.size w w' := by
  have C0 := Lib.hid (Es.check_strips A n c f hn w hA hV.cnt hV.out)
  rw [tv_no hP] at C0
  have CC := Lib.hid (fun x hx W (hb : Below w.heap.size w W) => code_of 1 false x hx W (hV.ety.below hb))
  simp only [Bool.false_eq_true, if_false] at CC
  clear hV hA
  refine (callsIn_wide (n := 3)).1 ?_
  refine callsIn_of_wp_marks Tryd.func31 rfl trivial ?_ rfl
  simp only [Tryd.ntmps31, List.size_toArray, List.length_cons, List.length_nil, Nat.reduceAdd, Nat.reduceSub, Array.replicate_succ, Array.replicate_zero, List.push_toArray, List.append_toArray, List.nil_append, List.cons_append]
  gi_wp2
  refine ⟨trivial, ((callsIn_wide (n := 2)).2 C0.out).mono ?_⟩
  rintro e w1 ⟨⟨x0, rfl, hx⟩, b1⟩
  have HB1 := Lib.hid b1
  have C1 := Lib.hid (CC.out x0 hx w1 HB1.out)
  clear b1 hx C0 CC
  gi_wp2
  refine ⟨trivial, ((callsIn_wide (n := 2)).2 C1.out).mono ?_⟩
  rintro e w2 ⟨rfl, b2⟩
  have HB2 := Lib.hid (below_then HB1.out b2)
  clear b2 C1 HB1
  gi_wp2
  exact ⟨.tuple #[.int .i64 0, .int .i64 1], by simp [results, Tryd.results31, go_sem], rfl, HB2.out⟩
end Go.Proofs.YtpmmfalpcooenaaDoor.C9r
