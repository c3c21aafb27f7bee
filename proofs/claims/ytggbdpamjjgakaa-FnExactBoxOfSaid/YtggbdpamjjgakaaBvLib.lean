/- BoxOf: spec and program. -/
import Derived.Test.YtggbdpamjjgakaaBpLib
import Derived.Test.YtggbdpamjjgakaaOmLib
import Derived.StillTailTactics
import Derived.Shelf.Abstract
import Derived.BigRegion
namespace Go.Proofs.Ytggbdpamjjgakaa.Bv
set_option linter.unusedVariables false
open Go.RowKit Ft Is Ge Qb Ol Ot Opl Oq Oi Oj Ok Om Bo Bp

theorem out_is {n : Nat} {f : Nat → Int} (h : outB n f = true) : Rng n f ∧ 3 ≤ n ∧ n ≤ 24 := by
  have := tv_iff.1 h
  exact ⟨this.1, this.2.1⟩
noncomputable def bxP (n : Nat) (f : Nat → Int) (p : Pt) : Pt := if outB n f = true then p else (0, 0)
noncomputable def bxC (n : Nat) (f : Nat → Int) : Int := if outB n f = true then 0 else 1
noncomputable def bxL (n : Nat) (f : Nat → Int) : Pt := bxP n f (fo mnP f (n - 1))
noncomputable def bxH (n : Nat) (f : Nat → Int) : Pt := bxP n f (fo mxP f (n - 1))
/-- What BoxOf hands back. -/
def BxAt (n : Nat) (f : Nat → Int) (w : World) (e : Ending) (w' : World) : Prop := e = .returned (.tuple #[spV (bxL n f).1 (bxL n f).2, spV (bxH n f).1 (bxH n f).2, .int .i64 (bxC n f)]) ∧ Below w.heap.size w w'
theorem bx_no {n : Nat} {f : Nat → Int} (h : outB n f = false) {w w' : World} (hb : Below w.heap.size w w') : BxAt n f w (.returned (.tuple #[.agg #[.int .i64 0, .int .i64 0], .agg #[.int .i64 0, .int .i64 0], .int .i64 1])) w' := by
  unfold BxAt bxL bxH bxP bxC
  rw [h]
  exact ⟨rfl, hb⟩
theorem bx_yes {n : Nat} {f : Nat → Int} (h : outB n f = true) {a b c d : Int} (e1 : fo mnP f (n - 1) = (a, b)) (e2 : fo mxP f (n - 1) = (c, d)) {w w' : World} (hb : Below w.heap.size w w') : BxAt n f w (.returned (.tuple #[.agg #[.int .i64 a, .int .i64 b], .agg #[.int .i64 c, .int .i64 d], .int .i64 0])) w' := by
  unfold BxAt bxL bxH bxP bxC
  rw [if_pos h, if_pos h, if_pos h, e1, e2]
  exact ⟨rfl, hb⟩
set_option maxRecDepth 100000 in
set_option maxHeartbeats 2000000 in
theorem impl_bo (A : Option Addr) (n c : Nat) (f : Nat → Int) (hn : n ≤ 1048576) (hcap : n ≤ c) (hcm : c ≤ maxLen) (w : World) (hA : Nums w w.heap.size A (n * 2) f) :
    Calls Try.prog 29 #[.slice A n c] w (BxAt n f w) := by
  have z : Value := .int .i64 0
  obtain ⟨k0, k1⟩ := two w (spC 0 0 38) (spC 0 0 38)
  have B0 := Lib.hid (below2 w (spC 0 0 38) (spC 0 0 38))
  have C := Lib.hid (iok A n c f hn ((w.alloc (spC 0 0 38)).alloc (spC 0 0 38)) ((hA.below B0.out (Nat.le_refl _)).more B0.out.size))
  cases ho : outB n f
  · have HN : Hid (∀ w', Below w.heap.size w w' → BxAt n f w (.returned (.tuple #[.agg #[.int .i64 0, .int .i64 0], .agg #[.int .i64 0, .int .i64 0], .int .i64 1])) w') := Lib.hid fun w' hb => bx_no ho hb
    rw [ho] at C
    generalize BxAt n f w = Q at HN ⊢
    clear hA z
    go_enter Try.func29, Try.ntmps29
    go_wp2_with fail
    refine C.out.mono ?_
    rintro e w2 ⟨rfl, b2⟩
    have B2 := Lib.hid (below_then B0.out b2)
    have K0 := blk_keep b2 k0
    have K1 := blk_keep b2 k1
    have l0 := lt_of_heap K0
    have l1 := lt_of_heap K1
    have f0 := blk_free K0
    have f1 := blk_free K1
    obtain ⟨x0, x1⟩ := blk2 K0
    obtain ⟨y0, y1⟩ := blk2 K1
    clear b2 k0 k1
    go_wp2_with fail
    exact bodyPost_ret (v := .tuple #[.agg #[.int .i64 0, .int .i64 0], .agg #[.int .i64 0, .int .i64 0], .int .i64 1]) (by simp [results, Try.results29, go_sem, x0, x1, y0, y1]) rfl
      (HN.out _ ((((B2.out.setCell (by simp) _).setCell (by simp) _).setCell (by simp <;> omega) _).setCell (by simp <;> omega) _))
  · obtain ⟨hR, h3, h24⟩ := out_is ho
    have HY : Hid (∀ a b c d, fo mnP f (n - 1) = (a, b) → fo mxP f (n - 1) = (c, d) → ∀ w', Below w.heap.size w w' → BxAt n f w (.returned (.tuple #[.agg #[.int .i64 a, .int .i64 b], .agg #[.int .i64 c, .int .i64 d], .int .i64 0])) w') := Lib.hid fun a b c d e1 e2 w' hb => bx_yes ho e1 e2 hb
    rw [ho] at C
    have CL : Hid (∀ w', Below w.heap.size w w' → Calls Try.prog 63 #[.slice A n c, .func (.func 64) #[] #[]] w' fun e w2 => e = .returned (spV (fo mnP f (n - 1)).1 (fo mnP f (n - 1)).2) ∧ Below w'.heap.size w' w2) := Lib.hid fun w' hb =>
      iall 64 mnP ileast (Go.Proofs.enters_of Try.func64 (by kernel_rfl) rfl) A n c f (by omega) (by omega) hcap hcm w' ((hA.below hb (Nat.le_refl _)).more hb.size)
    have CH : Hid (∀ w', Below w.heap.size w w' → Calls Try.prog 63 #[.slice A n c, .func (.func 65) #[] #[]] w' fun e w2 => e = .returned (spV (fo mxP f (n - 1)).1 (fo mxP f (n - 1)).2) ∧ Below w'.heap.size w' w2) := Lib.hid fun w' hb =>
      iall 65 mxP igreat (Go.Proofs.enters_of Try.func65 (by kernel_rfl) rfl) A n c f (by omega) (by omega) hcap hcm w' ((hA.below hb (Nat.le_refl _)).more hb.size)
    generalize BxAt n f w = Q at HY ⊢
    generalize fo mnP f (n - 1) = p at HY CL
    generalize fo mxP f (n - 1) = q at HY CH
    obtain ⟨p0, p1⟩ := p
    obtain ⟨q0, q1⟩ := q
    have HY := Lib.hid (HY.out _ _ _ _ rfl rfl)
    simp only [spV] at CL CH
    clear hA z hR
    go_enter Try.func29, Try.ntmps29
    go_wp2_with fail
    refine C.out.mono ?_
    rintro e w2 ⟨rfl, b2⟩
    have B2 := Lib.hid (below_then B0.out b2)
    have K02 := blk_keep b2 k0
    have K12 := blk_keep b2 k1
    clear b2 k0 k1 C B0
    go_wp2_with fail
    refine (CL.out _ B2.out).mono ?_
    rintro e w3 ⟨rfl, b3⟩
    have B3 := Lib.hid (below_then B2.out b3)
    have K03 := blk_keep b3 K02
    have K13 := blk_keep b3 K12
    clear b3 K02 K12 CL B2
    go_wp2_with fail
    refine (CH.out _ B3.out).mono ?_
    rintro e w4 ⟨rfl, b4⟩
    have B4 := Lib.hid (below_then B3.out b4)
    have K0 := blk_keep b4 K03
    have K1 := blk_keep b4 K13
    clear b4 K03 K13 CH B3
    have l0 := lt_of_heap K0
    have l1 := lt_of_heap K1
    have f0 := blk_free K0
    have f1 := blk_free K1
    obtain ⟨x0, x1⟩ := blk2 K0
    obtain ⟨y0, y1⟩ := blk2 K1
    go_wp2_with fail
    exact bodyPost_ret (v := .tuple #[.agg #[.int .i64 p0, .int .i64 p1], .agg #[.int .i64 q0, .int .i64 q1], .int .i64 0]) (by simp [results, Try.results29, go_sem, x0, x1, y0, y1]) rfl
      (HY.out _ ((((B4.out.setCell (by simp) _).setCell (by simp) _).setCell (by simp <;> omega) _).setCell (by simp <;> omega) _))
/-- The four boxes of the spec's BoxOf. -/
def Four (a b p q : Nat) (P Q : Pt) (w : World) : Prop := w.heap[a]? = some (spC 0 0 38) ∧ w.heap[b]? = some (spC 0 0 38) ∧ w.heap[p]? = some (spC P.1 P.2 38) ∧ w.heap[q]? = some (spC Q.1 Q.2 38)
theorem Four.low {a b p q : Nat} {P Q : Pt} {w : World} (h : Four a b p q P Q w) (h1 : a ≠ p) (h2 : b ≠ p) (h3 : q ≠ p) (x y : Int) : Four a b p q (x, y) Q ((w.setCell ⟨p, 0, none⟩ (.int .i64 x)).setCell ⟨p, 1, none⟩ (.int .i64 y)) :=
  ⟨(Below.heap_setCell _ _ _ _ h1).trans ((Below.heap_setCell _ _ _ _ h1).trans h.1), (Below.heap_setCell _ _ _ _ h2).trans ((Below.heap_setCell _ _ _ _ h2).trans h.2.1), heap_set (heap_set h.2.2.1 0 _) 1 _, (Below.heap_setCell _ _ _ _ h3).trans ((Below.heap_setCell _ _ _ _ h3).trans h.2.2.2)⟩
theorem Four.high {a b p q : Nat} {P Q : Pt} {w : World} (h : Four a b p q P Q w) (h1 : a ≠ q) (h2 : b ≠ q) (h3 : p ≠ q) (x y : Int) : Four a b p q P (x, y) ((w.setCell ⟨q, 0, none⟩ (.int .i64 x)).setCell ⟨q, 1, none⟩ (.int .i64 y)) :=
  ⟨(Below.heap_setCell _ _ _ _ h1).trans ((Below.heap_setCell _ _ _ _ h1).trans h.1), (Below.heap_setCell _ _ _ _ h2).trans ((Below.heap_setCell _ _ _ _ h2).trans h.2.1), (Below.heap_setCell _ _ _ _ h3).trans ((Below.heap_setCell _ _ _ _ h3).trans h.2.2.1), heap_set (heap_set h.2.2.2 0 _) 1 _⟩
theorem Four.drew {a b p q : Nat} {P Q : Pt} {w : World} (h : Four a b p q P Q w) : Four a b p q P Q w.drew := h
set_option maxRecDepth 100000 in
set_option maxHeartbeats 8000000 in
theorem spec_bo (A : Option Addr) (n c : Nat) (f : Nat → Int) (hn : n ≤ 1048576) (w : World) (hA : Nums w w.heap.size A (n * 2) f) :
    Calls Try.prog 28 #[.slice A n c] w (BxAt n f w) := by
  obtain ⟨k0, k1⟩ := two w (spC 0 0 38) (spC 0 0 38)
  have B0 := Lib.hid (below2 w (spC 0 0 38) (spC 0 0 38))
  have C := Lib.hid (sok A n c f hn ((w.alloc (spC 0 0 38)).alloc (spC 0 0 38)) ((hA.below B0.out (Nat.le_refl _)).more B0.out.size))
  cases ho : outB n f
  · have HN : Hid (∀ w', Below w.heap.size w w' → BxAt n f w (.returned (.tuple #[.agg #[.int .i64 0, .int .i64 0], .agg #[.int .i64 0, .int .i64 0], .int .i64 1])) w') := Lib.hid fun w' hb => bx_no ho hb
    rw [ho] at C
    generalize BxAt n f w = Q at HN ⊢
    clear hA
    go_enter Try.func28, Try.ntmps28
    go_wp2_with fail
    refine C.out.mono ?_
    rintro e w2 ⟨rfl, b2⟩
    have B2 := Lib.hid (below_then B0.out b2)
    have K0 := blk_keep b2 k0
    have K1 := blk_keep b2 k1
    have l0 := lt_of_heap K0
    have l1 := lt_of_heap K1
    have f0 := blk_free K0
    have f1 := blk_free K1
    obtain ⟨x0, x1⟩ := blk2 K0
    obtain ⟨y0, y1⟩ := blk2 K1
    clear b2 k0 k1
    go_wp2_with fail
    exact bodyPost_ret (v := .tuple #[.agg #[.int .i64 0, .int .i64 0], .agg #[.int .i64 0, .int .i64 0], .int .i64 1]) (by simp [results, Try.results28, go_sem, x0, x1, y0, y1]) rfl
      (HN.out _ ((((B2.out.setCell (by simp) _).setCell (by simp) _).setCell (by simp <;> omega) _).setCell (by simp <;> omega) _))
  · obtain ⟨hR, h3, h24⟩ := out_is ho
    have HY : Hid (∀ a b c d, fo mnP f (n - 1) = (a, b) → fo mxP f (n - 1) = (c, d) → ∀ w', Below w.heap.size w w' → BxAt n f w (.returned (.tuple #[.agg #[.int .i64 a, .int .i64 b], .agg #[.int .i64 c, .int .i64 d], .int .i64 0])) w') := Lib.hid fun a b c d e1 e2 w' hb => bx_yes ho e1 e2 hb
    rw [ho] at C
    obtain ⟨b, off, rfl, hb, hc⟩ := hA (by omega)
    have HC := Lib.hid hc
    have HS : Hid (∀ k, 1 ≤ k → fo mnP f (k + 1 - 1) = (min (fo mnP f (k - 1)).1 (f (k * 2)), min (fo mnP f (k - 1)).2 (f (k * 2 + 1)))) := Lib.hid fun k hk => by
      obtain ⟨j, rfl⟩ : ∃ j, k = j + 1 := ⟨k - 1, by omega⟩
      rfl
    have HT : Hid (∀ k, 1 ≤ k → fo mxP f (k + 1 - 1) = (max (fo mxP f (k - 1)).1 (f (k * 2)), max (fo mxP f (k - 1)).2 (f (k * 2 + 1)))) := Lib.hid fun k hk => by
      obtain ⟨j, rfl⟩ : ∃ j, k = j + 1 := ⟨k - 1, by omega⟩
      rfl
    have HS0 : Hid (fo mnP f 0 = (f 0, f 1)) := Lib.hid rfl
    have HT0 : Hid (fo mxP f 0 = (f 0, f 1)) := Lib.hid rfl
    generalize BxAt n f w = Q at HY ⊢
    generalize fo mnP f = F at HY HS HS0
    generalize fo mxP f = G at HY HT HT0
    clear hA hc hR
    have e6 : (0 : Int) < (n : Int) := by omega
    have e24 : (n : Int) ≤ 24 := by omega
    go_enter Try.func28, Try.ntmps28
    go_wp2_with fail
    refine C.out.mono ?_
    rintro e w1 ⟨rfl, b1⟩
    have B1 := Lib.hid (below_then B0.out b1)
    have K01 := Lib.hid (blk_keep b1 k0)
    have K11 := Lib.hid (blk_keep b1 k1)
    have l0 := lt_of_heap K01.out
    have l1 := lt_of_heap K11.out
    clear b1 k0 k1 C B0
    have x0 : w1.cell? ⟨b, off, none⟩ = some (.int .i64 (f 0)) := (B1.out.cell (p := ⟨b, off, none⟩) hb).trans (by have := HC.out 0 (by omega); simpa using this)
    have x1 : w1.cell? ⟨b, off + 1, none⟩ = some (.int .i64 (f 1)) := (B1.out.cell (p := ⟨b, off + 1, none⟩) hb).trans (HC.out 1 (by omega))
    have hbr : b < w1.heap.size := by have := B1.out.size; omega
    generalize f 0 = p0 at x0 HS0 HT0
    generalize f 1 = p1 at x1 HS0 HT0
    obtain ⟨kp, kq⟩ := two w1 (spC p0 p1 38) (spC p0 p1 38)
    have B2 := Lib.hid (below_then B1.out (below2 w1 (spC p0 p1 38) (spC p0 p1 38)))
    have F2 : Hid (Four w.heap.size (w.heap.size + 1) w1.heap.size (w1.heap.size + 1) (F (1 - 1)) (G (1 - 1)) ((w1.alloc (spC p0 p1 38)).alloc (spC p0 p1 38))) := Lib.hid ⟨blk_old _ (blk_old _ K01.out), blk_old _ (blk_old _ K11.out), by rw [HS0.out]; exact kp, by rw [HT0.out]; exact kq⟩
    have x0' : (w1.alloc (spC p0 p1 38)).cell? ⟨b, off, none⟩ = some (.int .i64 p0) := Lib.cell?_alloc_some _ x0
    have x1' : (w1.alloc (spC p0 p1 38)).cell? ⟨b, off + 1, none⟩ = some (.int .i64 p1) := Lib.cell?_alloc_some _ x1
    clear kp kq
    go_upto_region 6 with fail
    generalize hp : w1.heap.size = p at F2 l0 l1 hbr ⊢
    generalize hw2 : (w1.alloc _).alloc _ = w2 at B2 F2 ⊢
    clear hw2 x0 x1 x0' x1' K01 K11 B1
    generalize hr0 : w.heap.size = r0 at F2 l0 l1 B2 hb ⊢
    have n1 : r0 ≠ p := by omega
    have n2 : r0 + 1 ≠ p := by omega
    have n3 : p + 1 ≠ p := by omega
    have n4 : r0 ≠ p + 1 := by omega
    have n5 : r0 + 1 ≠ p + 1 := by omega
    have n6 : p ≠ p + 1 := by omega
    go_loopw [7] (fun i wr => ∃ k : Nat, 1 ≤ k ∧ k ≤ n ∧ i = .int .i64 (k : Int) ∧ Hid (Below r0 w wr) ∧ Hid (Four r0 (r0 + 1) p (p + 1) (F (k - 1)) (G (k - 1)) wr)) (fun i _ => n - (intOf i).toNat)
    case atStart => exact ⟨1, by omega, by omega, rfl, B2, F2⟩
    case round =>
      obtain ⟨k, hk1, hk, rfl, HB, HK⟩ := hrel
      have g0 : (0 : Int) ≤ (k : Int) := Int.natCast_nonneg _
      by_cases hlt : k < n
      · have x : ∀ i, i < n * 2 → wr.cell? ⟨b, off + i, none⟩ = some (.int .i64 (f i)) := fun i hi => (HB.out.cell (p := ⟨b, off + i, none⟩) hb).trans (HC.out i hi)
        obtain ⟨a0, a1⟩ := nums_two x hlt
        have HSk := Lib.hid (HS.out k hk1)
        have HTk := Lib.hid (HT.out k hk1)
        have M0 := Lib.hid fun w => smin (F (k - 1)).1 (f (k * 2)) w
        have M1 := Lib.hid fun w => smin (F (k - 1)).2 (f (k * 2 + 1)) w
        have X0 := Lib.hid fun w => smax (G (k - 1)).1 (f (k * 2)) w
        have X1 := Lib.hid fun w => smax (G (k - 1)).2 (f (k * 2 + 1)) w
        have g1 : (k : Int) < (n : Int) := by omega
        generalize min (F (k - 1)).1 (f (k * 2)) = m0 at M0 HSk
        generalize min (F (k - 1)).2 (f (k * 2 + 1)) = m1 at M1 HSk
        generalize max (G (k - 1)).1 (f (k * 2)) = t0 at X0 HTk
        generalize max (G (k - 1)).2 (f (k * 2 + 1)) = t1 at X1 HTk
        generalize f (k * 2) = qx at a0 M0 X0
        generalize f (k * 2 + 1) = qy at a1 M1 X1
        generalize F (k - 1) = s at HK M0 M1
        generalize G (k - 1) = u at HK X0 X1
        obtain ⟨s0, s1⟩ := s
        obtain ⟨u0, u1⟩ := u
        simp only at M0 M1 X0 X1
        obtain ⟨y0, y1⟩ := blk2 HK.out.2.2.1
        have N0 := Lib.hid fun w => (M0.out w).mono fun e w' (h : e = .returned (.int .i64 m0) ∧ w = w') => (⟨h.1, h.2.symm⟩ : e = .returned (.int .i64 m0) ∧ w' = w)
        have N1 := Lib.hid fun w => (M1.out w).mono fun e w' (h : e = .returned (.int .i64 m1) ∧ w = w') => (⟨h.1, h.2.symm⟩ : e = .returned (.int .i64 m1) ∧ w' = w)
        have N2 := Lib.hid fun w => (X0.out w).mono fun e w' (h : e = .returned (.int .i64 t0) ∧ w = w') => (⟨h.1, h.2.symm⟩ : e = .returned (.int .i64 t0) ∧ w' = w)
        have N3 := Lib.hid fun w => (X1.out w).mono fun e w' (h : e = .returned (.int .i64 t1) ∧ w = w') => (⟨h.1, h.2.symm⟩ : e = .returned (.int .i64 t1) ∧ w' = w)
        have hxx := Lib.hid x
        clear x hk M0 M1 X0 X1
        go_upto_region 8 with fail
        refine wp_region_still_tail 17 (by kernel_rfl) (by kernel_rfl) ?_
        simp only [List.take_succ_cons, List.take_zero, List.drop_succ_cons, List.drop_zero]
        repeat (first | still_step | still_call (N0.out _) | still_call (N1.out _))
        try refine wpStill_nil ?_
        change wpList _ _ _ _ _ wr.drew
        have HBd := Lib.hid HB.out.drew
        have HKd := Lib.hid HK.out.drew
        have a0d : wr.drew.cell? ⟨b, off + k * 2, none⟩ = some (.int .i64 qx) := a0
        have a1d : wr.drew.cell? ⟨b, off + k * 2 + 1, none⟩ = some (.int .i64 qy) := a1
        clear N0 N1 a0 a1 y0 y1 HB HK hxx
        generalize wr.drew = wd at HBd HKd a0d a1d ⊢
        obtain ⟨y0, y1⟩ := blk2 HKd.out.2.2.1
        have fz := blk_free HKd.out.2.2.1
        have hl := lt_of_heap HKd.out.2.2.1
        have HB5 := Lib.hid ((HBd.out.setCell (p := ⟨p, 0, none⟩) (show r0 ≤ p by omega) (.int .i64 m0)).setCell (p := ⟨p, 1, none⟩) (show r0 ≤ p by omega) (.int .i64 m1))
        have HK5 := Lib.hid (HKd.out.low n1 n2 n3 m0 m1)
        have hne : ∀ x : Nat, (⟨p, x, none⟩ : Addr) ≠ ⟨b, off + k * 2, none⟩ ∧ (⟨p, x, none⟩ : Addr) ≠ ⟨b, off + k * 2 + 1, none⟩ := fun x => ⟨fun q => by have := (Addr.mk.inj q).1; omega, fun q => by have := (Addr.mk.inj q).1; omega⟩
        have a05 : ((wd.setCell ⟨p, 0, none⟩ (.int .i64 m0)).setCell ⟨p, 1, none⟩ (.int .i64 m1)).cell? ⟨b, off + k * 2, none⟩ = some (.int .i64 qx) := by rw [World.cell?_setCell_other _ _ _ _ (hne 1).1, World.cell?_setCell_other _ _ _ _ (hne 0).1]; exact a0d
        have a15 : ((wd.setCell ⟨p, 0, none⟩ (.int .i64 m0)).setCell ⟨p, 1, none⟩ (.int .i64 m1)).cell? ⟨b, off + k * 2 + 1, none⟩ = some (.int .i64 qy) := by rw [World.cell?_setCell_other _ _ _ _ (hne 1).2, World.cell?_setCell_other _ _ _ _ (hne 0).2]; exact a1d
        clear hne HBd HKd a0d a1d
        go_upto_region 9 with fail
        generalize (wd.setCell _ _).setCell _ _ = we at HB5 HK5 a05 a15 ⊢
        clear y0 y1 fz hl
        obtain ⟨y0, y1⟩ := blk2 HK5.out.2.2.2
        refine wp_region_still_tail 17 (by kernel_rfl) (by kernel_rfl) ?_
        simp only [List.take_succ_cons, List.take_zero, List.drop_succ_cons, List.drop_zero]
        repeat (first | still_step | still_call (N2.out _) | still_call (N3.out _))
        try refine wpStill_nil ?_
        change wpList _ _ _ _ _ we.drew
        have HBd := Lib.hid HB5.out.drew
        have HKd := Lib.hid HK5.out.drew
        clear N2 N3 a05 a15 y0 y1 HB5 HK5
        generalize we.drew = wg at HBd HKd ⊢
        obtain ⟨y0, y1⟩ := blk2 HKd.out.2.2.2
        have fz := blk_free HKd.out.2.2.2
        have hl := lt_of_heap HKd.out.2.2.2
        have HB6 := Lib.hid ((HBd.out.setCell (p := ⟨p + 1, 0, none⟩) (show r0 ≤ p + 1 by omega) (.int .i64 t0)).setCell (p := ⟨p + 1, 1, none⟩) (show r0 ≤ p + 1 by omega) (.int .i64 t1))
        have HK6 := Lib.hid (HKd.out.high n4 n5 n6 t0 t1)
        clear HBd HKd
        go_wp2_with fail
        go_roundw
        case rel => exact ⟨k + 1, by omega, by omega, by go_num, HB6, by rw [HSk.out, HTk.out]; exact HK6⟩
        case measure => simp [intOf]; omega
      · obtain rfl : n = k := by omega
        have g1 : ¬ (n : Int) < (n : Int) := by omega
        have HYn := Lib.hid (HY.out (F (n - 1)).1 (F (n - 1)).2 (G (n - 1)).1 (G (n - 1)).2 rfl rfl)
        generalize F (n - 1) = s at HK HYn
        generalize G (n - 1) = u at HK HYn
        obtain ⟨s0, s1⟩ := s
        obtain ⟨u0, u1⟩ := u
        simp only at HYn
        obtain ⟨K0, K1, KP, KQ⟩ := HK.out
        have fa := blk_free K0
        have fb := blk_free K1
        have la := lt_of_heap K0
        have lb := lt_of_heap K1
        obtain ⟨x0, x1⟩ := blk2 K0
        obtain ⟨z0, z1⟩ := blk2 K1
        obtain ⟨y0, y1⟩ := blk2 KP
        obtain ⟨v0, v1⟩ := blk2 KQ
        have hne01 : r0 ≠ r0 + 1 := by omega
        have KF0 : Hid ((((((wr.setCell ⟨r0, 0, none⟩ (.int .i64 s0)).setCell ⟨r0, 1, none⟩ (.int .i64 s1)).setCell ⟨r0 + 1, 0, none⟩ (.int .i64 u0)).setCell ⟨r0 + 1, 1, none⟩ (.int .i64 u1)).drew).heap[r0]? = some (spC s0 s1 38)) := Lib.hid ((Below.heap_setCell _ _ _ _ hne01).trans ((Below.heap_setCell _ _ _ _ hne01).trans (heap_set (heap_set K0 0 _) 1 _)))
        have KF1 : Hid ((((((wr.setCell ⟨r0, 0, none⟩ (.int .i64 s0)).setCell ⟨r0, 1, none⟩ (.int .i64 s1)).setCell ⟨r0 + 1, 0, none⟩ (.int .i64 u0)).setCell ⟨r0 + 1, 1, none⟩ (.int .i64 u1)).drew).heap[r0 + 1]? = some (spC u0 u1 38)) := Lib.hid (heap_set (heap_set ((Below.heap_setCell _ _ _ _ (Ne.symm hne01)).trans ((Below.heap_setCell _ _ _ _ (Ne.symm hne01)).trans K1)) 0 _) 1 _)
        have HBF := Lib.hid ((((((HB.out.setCell (p := ⟨r0, 0, none⟩) (Nat.le_refl _) (.int .i64 s0)).setCell (p := ⟨r0, 1, none⟩) (Nat.le_refl _) (.int .i64 s1)).setCell (p := ⟨r0 + 1, 0, none⟩) (Nat.le_succ _) (.int .i64 u0)).setCell (p := ⟨r0 + 1, 1, none⟩) (Nat.le_succ _) (.int .i64 u1)).drew))
        clear hk hk1 hlt HS HT HS0 HT0 HY HK K0 K1 KP KQ HB
        go_upto_region 10 with fail
        go_region
        all_goals
          clear x0 x1 z0 z1 y0 y1 v0 v1 fa fb la lb
          generalize hwz : World.drew _ = wz at KF0 KF1 HBF ⊢
          clear hwz
          obtain ⟨x0, x1⟩ := blk2 KF0.out
          obtain ⟨z0, z1⟩ := blk2 KF1.out
          have HF := Lib.hid (HYn.out wz (by rw [hr0]; exact HBF.out))
          go_wp2_with fail
          exact bodyPost_ret (v := .tuple #[.agg #[.int .i64 s0, .int .i64 s1], .agg #[.int .i64 u0, .int .i64 u1], .int .i64 0]) (by simp [results, Try.results28, go_sem, x0, x1, z0, z1]) rfl HF.out
end Go.Proofs.Ytggbdpamjjgakaa.Bv
