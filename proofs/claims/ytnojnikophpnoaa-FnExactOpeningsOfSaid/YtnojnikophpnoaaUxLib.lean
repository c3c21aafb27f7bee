/- CornersOf: the spec's corners. -/
import Derived.Test.YtnojnikophpnoaaUqLib
import Derived.StillTailTactics
namespace Go.Proofs.Ytnojnikophpnoaa.Ux
set_option linter.unusedVariables false
open Go.RowKit Go.Maps Ft Is Ge Qb Pt Pv Za Mm Zb Zc Zd Vq Sdq Sdu Uf Ug Uh Uk Uc

theorem eg_at {ms : Nat → Nat} : ∀ {n i q : Nat}, i < n → q < ms i → eg ms n (sumN ms i + q) = (i, q)
  | 0, i, q, h, _ => by omega
  | n + 1, i, q, h, hq => by
    unfold eg plc
    rw [List.getD_eq_getElem?_getD]
    by_cases e : i = n
    · subst e
      rw [List.getElem?_append_right (by rw [plc_len]; omega), plc_len, show sumN ms i + q - sumN ms i = q by omega]
      simp [hq]
    · have hl : sumN ms i + q < (plc ms n).length := by
        rw [plc_len]
        have : ∀ p, i < p → sumN ms i + ms i ≤ sumN ms p := fun p => by
          induction p with
          | zero => intro h; omega
          | succ p ih =>
            intro hp
            show _ ≤ sumN ms p + ms p
            by_cases e' : i = p
            · subst e'; omega
            · have := ih (by omega); omega
        have := this n (by omega)
        omega
      rw [List.getElem?_append_left hl]
      have := eg_at (ms := ms) (n := n) (i := i) (q := q) (by omega) hq
      unfold eg at this
      rw [List.getD_eq_getElem?_getD] at this
      exact this
set_option maxRecDepth 100000 in
set_option maxHeartbeats 1000000 in
theorem s_next (g : Nat) (A : Option Addr) (n c : Nat) (N : Nat → ByteArray) (ms : Nat → Nat) (ds : Nat → Nat → Int) (Y : Option Addr) (k sc : Nat) (S : Nat → Int) (o : Int) (i q : Nat) (hi : i < n) (hm : 1 ≤ ms i ∧ ms i ≤ 8) (hq : q < ms i) (w : World) (h : Boxed w g A n c N ms ds Y k sc S o) :
    Calls Try.prog 109 #[.pointer (some ⟨g, 0, none⟩), .int .i64 (i : Int), .int .i64 (q : Int)] w fun e' w' => e' = .returned (.int .i64 (nx (ms i) q : Int)) ∧ w = w' := by
  obtain ⟨As, cs, hR⟩ := h.pat.pcs
  obtain ⟨bp, op, rfl, hbp, hc⟩ := hR.out (by omega)
  have u1 := (hc i hi).2
  obtain ⟨x0, _, _⟩ := blk3 h.blk
  have hn := nx_int (ms i) q
  have n1 : (0 : Int) ≤ (i : Int) := Int.natCast_nonneg _
  have l1 : (i : Int) < (n : Int) := by omega
  generalize nx (ms i) q = r at hn ⊢
  generalize ms i = m at u1 hm hq hn
  generalize cs i = ci at u1
  generalize As i = ai at u1
  have m0 : ¬ (m : Int) = 0 := by omega
  have q0 : (0 : Int) ≤ (q : Int) := Int.natCast_nonneg _
  have hm0 : (0 : Int) ≤ (m : Int) := Int.natCast_nonneg _
  clear h hR hc
  go_enter Try.func109, Try.ntmps109
  go_wp2_with fail
  go_ret
  exact ⟨ret_int hn, rfl⟩
/-- The list of which the first j numbers are laid. -/
def ly (j i : Nat) : Int := if i < j then (i : Int) else 0
theorem ly_set {w : World} {g n j : Nat} (h : At w g n (ly j)) (hj : j < n) : At (w.setCell ⟨g, j, none⟩ (.int .i64 (j : Int))) g n (ly (j + 1)) :=
  ⟨by simpa using h.1, fun i hi => by
    by_cases e : i = j
    · subst e
      rw [World.cell?_setCell_same _ _ _ (h.2.1 i hi)]
      unfold ly
      rw [if_pos (by omega)]
    · rw [World.cell?_setCell_other _ _ _ _ (show (⟨g, j, none⟩ : Addr) ≠ ⟨g, i, none⟩ from fun q => by have := (Addr.mk.inj q).2.1; omega), h.2.1 i hi]
      unfold ly
      by_cases e2 : i < j
      · rw [if_pos e2, if_pos (by omega)]
      · rw [if_neg e2, if_neg (by omega)], fun i => (World.frozen?_setCell _ _ _ _).trans (h.2.2 i)⟩
theorem s_two (ms : Nat → Nat) (S : Nat → Int) (j : Nat) : sX ms S (2 * j) = pc (endA S j) ∧ sY ms S (2 * j) = pc (nxt ms (endB S j)) ∧ sX ms S (2 * j + 1) = pc (nxt ms (endA S j)) ∧ sY ms S (2 * j + 1) = pc (endB S j) := by
  unfold sX sY
  rw [if_pos (by omega), if_pos (by omega), if_neg (by omega), if_neg (by omega), show 2 * j / 2 = j by omega, show (2 * j + 1) / 2 = j by omega]
  exact ⟨rfl, rfl, rfl, rfl⟩
theorem pc_int (x : Nat × Nat) : 8 * (x.1 : Int) + (x.2 : Int) = (pc x : Int) := by unfold pc; omega
set_option maxRecDepth 100000 in
set_option maxHeartbeats 4000000 in
theorem s_corners (g : Nat) (A : Option Addr) (n c : Nat) (N : Nat → ByteArray) (ms : Nat → Nat) (ds : Nat → Nat → Int) (Y : Option Addr) (k sc : Nat) (S : Nat → Int) (o : Int) (hz : Small n N ms k) (hP : PatP n N ms ds k S o) (w : World) (h : Boxed w g A n c N ms ds Y k sc S o) :
    Calls Try.prog 77 #[.pointer (some ⟨g, 0, none⟩)] w fun e w' => e = .returned (.int .i64 (coN ms n S k : Int)) ∧ Below w.heap.size w w' := by
  obtain ⟨_, hkk, _⟩ := hz.at
  obtain ⟨p1, p2, p3, p4⟩ := pat_in hP
  have HX := Lib.hid h
  obtain ⟨i0, hi0, hz0, hz1, hz2⟩ := info_parts info_int
  have HMK : Hid (∀ w : World, (Instr.makeSlice 36 (.int .i64 (8 * (n : Int))) (.int .i64 (8 * (n : Int)))).run Try.prog w = .ok (.slice (some ⟨w.heap.size, 0, none⟩) (8 * n) (8 * n)) (w.alloc (.cells (Go.madeCells #[Value.int .i64 0] (8 * n)) 2))) := Lib.hid fun w => by
    have := run_make w _ _ i0 _ Try.underlying36 hi0 hz0 .i64 .i64 (8 * (n : Int)) (8 * (n : Int)) (by omega) (by omega) (by rw [hz2]; omega) (by omega)
    rw [hz1, show (8 * (n : Int)).toNat = 8 * n by omega, Nat.mul_one] at this
    exact this
  have HA0 : Hid (∀ w : World, At (w.alloc (.cells (Go.madeCells #[Value.int .i64 0] (8 * n)) 2)) w.heap.size (8 * n) (ly 0)) := Lib.hid fun w => ⟨by simp, fun i hi => by
    refine (cell_of_row _ _ i _ _ _ (heap_alloc_new w _)).trans ?_
    rw [← Array.getElem?_toList, Go.toList_madeCells_one]
    simp [hi, ly], fun i => blk_free (heap_alloc_new w _) i⟩
  have HA1 : Hid (∀ w' gl, At w' gl (8 * n) (ly (8 * n)) → At w' gl (8 * n) (fun i => (lab (sX ms S) (sY ms S) (2 * 0) i : Int))) := Lib.hid fun w' gl h => ⟨h.1, fun i hi => by rw [h.2.1 i hi]; unfold ly; rw [if_pos hi]; rfl, h.2.2⟩
  have HLY : Hid (∀ wr gl j, j < 8 * n → At wr gl (8 * n) (ly j) → At (wr.setCell ⟨gl, j, none⟩ (.int .i64 (j : Int))) gl (8 * n) (ly (j + 1)) ∧ wr.cell? ⟨gl, j, none⟩ = some (.int .i64 0) ∧ wr.frozen? ⟨gl, j, none⟩ = false ∧ gl < wr.heap.size) := Lib.hid fun wr gl j hj ha => ⟨ly_set ha hj, by rw [ha.2.1 j hj]; unfold ly; rw [if_neg (by omega)], ha.2.2 j, ha.1⟩
  have CN := Lib.hid (fun i q hi hq W hW => s_next g A n c N ms ds Y k sc S o i q hi ⟨by have := p2 i hi; omega, (p2 i hi).2⟩ hq W hW)
  have CJ : Hid (∀ w gl cap j, At w gl (8 * n) (fun i => (lab (sX ms S) (sY ms S) j i : Int)) → Calls Try.prog 100 #[.slice (some ⟨gl, 0, none⟩) (8 * n) cap, .int .i64 (lab (sX ms S) (sY ms S) j (sX ms S j) : Int), .int .i64 (lab (sX ms S) (sY ms S) j (sY ms S j) : Int)] w fun e w' => e = .returned (.tuple #[]) ∧ At w' gl (8 * n) (fun i => (lab (sX ms S) (sY ms S) (j + 1) i : Int)) ∧ Bw.But gl w w') := Lib.hid fun w gl cap j h => by
    have := s_join gl (8 * n) cap (fun i => (lab (sX ms S) (sY ms S) j i : Int)) (lab (sX ms S) (sY ms S) j (sX ms S j) : Int) (lab (sX ms S) (sY ms S) j (sY ms S j) : Int) (by omega) w h
    rw [jn_lab] at this
    exact this
  have HTW := Lib.hid (s_two ms S)
  have HPT : Hid (∀ j, j < k → (S (j * 4) = ((endA S j).1 : Int) ∧ S (j * 4 + 1) = ((endA S j).2 : Int) ∧ S (j * 4 + 2) = ((endB S j).1 : Int) ∧ S (j * 4 + 3) = ((endB S j).2 : Int)) ∧ (endA S j).1 < n ∧ (endA S j).2 < ms (endA S j).1 ∧ (endB S j).1 < n ∧ (endB S j).2 < ms (endB S j).1) := Lib.hid fun j hj => by
    obtain ⟨i1, i2, i3, i4⟩ := endA_int (hP.2.2 j hj).1
    have := p4 j hj
    exact ⟨⟨i1.symm, i2.symm, i3.symm, i4.symm⟩, this.1.1, this.1.2, this.2.1, this.2.2⟩
  have HM8 := Lib.hid p2
  have HCB : Hid (∀ i q, i < n → q < ms i → coB ms n S k (sumN ms i + q) = decide (lab (sX ms S) (sY ms S) (2 * k) (8 * i + q) = 8 * i + q)) := Lib.hid fun i q hi hq => by
    unfold coB gX
    rw [eg_at hi hq]
    rfl
  have HCN : Hid (coN ms n S k = cc (coB ms n S k) (sumN ms n)) := Lib.hid rfl
  have HSE : Hid (∀ i, i < n → sumN ms i + ms i ≤ 80) := Lib.hid fun i hi => by
    have h1 := sum_le (ms := ms) (p := i) (fun j hj => (p2 j (by omega)).2)
    have h2 := (p2 i hi).2
    omega
  clear h hz hP p2 p3 p4 hi0 hz0 hz1 hz2
  generalize lab (sX ms S) (sY ms S) = L at *
  generalize coB ms n S k = cb at HCB HCN
  rw [HCN.out]
  obtain ⟨x0, x1, x2⟩ := blk3 HX.out.blk
  have hmk := HMK.out w
  go_enter Try.func77, Try.ntmps77
  go_upto_region 2 with fail
  clear hmk HMK
  have B0 := Lib.hid (below_box w (.cells (Go.madeCells #[Value.int .i64 0] (8 * n)) 2))
  have A0 := Lib.hid (HA0.out w)
  have hgl : Hid (w.heap.size ≤ w.heap.size) := Lib.hid (Nat.le_refl _)
  generalize hgg : w.heap.size = gl at A0 ⊢
  rw [hgg] at B0
  clear x0 x1 x2
  rw [hgg] at hgl
  have hgw : w.heap.size = gl := hgg
  generalize w.alloc (.cells (Go.madeCells #[Value.int .i64 0] (8 * n)) 2) = w1 at A0 B0 ⊢
  generalize hEE : 8 * n = E at *
  go_upto_region 3 with fail
  go_loopw [4] (fun i wr => ∃ j : Nat, j ≤ E ∧ i = .int .i64 (j : Int) ∧ Hid (Below w.heap.size w wr) ∧ Hid (At wr gl E (ly j))) (fun i _ => E - (intOf i).toNat)
  case atStart => exact ⟨0, Nat.zero_le _, rfl, by rw [hgw]; exact B0, A0⟩
  case round =>
    clear A0 B0
    obtain ⟨j, hj, rfl, HB, HA⟩ := hrel
    have e0 : (0 : Int) ≤ (j : Int) := Int.natCast_nonneg _
    by_cases hlt : j < E
    · have e1 : (j : Int) < (E : Int) := by omega
      have hj1 : j + 1 ≤ E := by omega
      obtain ⟨a1, a2, a3, a4⟩ := HLY.out wr gl j hlt HA.out
      have HA1 := Lib.hid a1
      have HB1 := Lib.hid (HB.out.setCell (p := ⟨gl, j, none⟩) (by show w.heap.size ≤ gl; omega) (.int .i64 (j : Int)))
      clear a1
      go_wp2_with fail
      go_roundw
      case rel => exact ⟨j + 1, hj1, by go_num, HB1, HA1⟩
      case measure => simp [intOf]; omega
    · have hjE : j = E := by omega
      have e1 : ¬ (j : Int) < (E : Int) := by omega
      rw [hjE] at HA
      have HAL := Lib.hid (HA1.out _ _ HA.out)
      clear HA HLY HA0 HA1 hj hlt
      go_wp2_with fail
      clear hjE e1 e0
      go_loopw [5, 6, 7, 8, 9, 10] (fun i _ _ _ _ _ wr => ∃ j : Nat, j ≤ k ∧ i = .int .i64 (j : Int) ∧ Hid (Below w.heap.size w wr) ∧ Hid (At wr gl E (fun i => (L (2 * j) i : Int)))) (fun i _ _ _ _ _ _ => k - (intOf i).toNat)
      case atStart => exact ⟨0, Nat.zero_le _, rfl, HB, HAL⟩
      case round =>
        clear HB HAL
        obtain ⟨j, hj, rfl, HB, HA⟩ := hrel
        have e0 : (0 : Int) ≤ (j : Int) := Int.natCast_nonneg _
        have HXr := Lib.hid (HX.out.below HB.out)
        obtain ⟨x0, x1, x2⟩ := blk3 HXr.out.blk
        by_cases hlt : j < k
        · have e1 : (j : Int) < (k : Int) := by omega
          have hj1 : j + 1 ≤ k := by omega
          obtain ⟨b1, o1, rfl, hb1, hc1⟩ := HXr.out.pat.seams (by omega)
          obtain ⟨u0, u1, u2, u3⟩ := four_cells hc1 hlt
          obtain ⟨⟨q1, q2, q3, q4⟩, r1, r2, r3, r4⟩ := HPT.out j hlt
          obtain ⟨t1, t2, t3, t4⟩ := HTW.out j
          rw [q1] at u0
          rw [q2] at u1
          rw [q3] at u2
          rw [q4] at u3
          have ma := HM8.out _ r1
          have mb := HM8.out _ r3
          have CA := Lib.hid (CN.out _ _ r1 r2)
          have CB := Lib.hid (CN.out _ _ r3 r4)
          have C1 := Lib.hid (fun W cap h => CJ.out W gl cap (2 * j) h)
          have C2 := Lib.hid (fun W cap h => CJ.out W gl cap (2 * j + 1) h)
          rw [t1, t2] at C1
          rw [t3, t4] at C2
          have ca := pc_int (endA S j)
          have cb' := pc_int (endB S j)
          have cna : 8 * ((endA S j).1 : Int) + ((nx (ms (endA S j).1) (endA S j).2 : Nat) : Int) = (pc (nxt ms (endA S j)) : Int) := pc_int (nxt ms (endA S j))
          have cnb : 8 * ((endB S j).1 : Int) + ((nx (ms (endB S j).1) (endB S j).2 : Nat) : Int) = (pc (nxt ms (endB S j)) : Int) := pc_int (nxt ms (endB S j))
          have za : nx (ms (endA S j).1) (endA S j).2 < ms (endA S j).1 := nx_lt (by omega)
          have zb : nx (ms (endB S j).1) (endB S j).2 < ms (endB S j).1 := nx_lt (by omega)
          have la : pc (endA S j) < E := by unfold pc; omega
          have lb' : pc (endB S j) < E := by unfold pc; omega
          have lna : pc (nxt ms (endA S j)) < E := by unfold pc nxt; show 8 * (endA S j).1 + nx _ _ < E; omega
          have lnb : pc (nxt ms (endB S j)) < E := by unfold pc nxt; show 8 * (endB S j).1 + nx _ _ < E; omega
          have BX := Lib.hid (below_box wr (.cells #[.int .i64 ((endA S j).1 : Int), .int .i64 ((endA S j).2 : Int), .int .i64 ((endB S j).1 : Int), .int .i64 ((endB S j).2 : Int)] 51))
          have KX := Lib.hid (heap_alloc_new wr (.cells #[.int .i64 ((endA S j).1 : Int), .int .i64 ((endA S j).2 : Int), .int .i64 ((endB S j).1 : Int), .int .i64 ((endB S j).2 : Int)] 51))
          have HWX := Lib.hid (below_then HB.out BX.out)
          have HAX := Lib.hid (HA.out.below BX.out)
          clear hc1 t1 t2 t3 t4 q1 q2 q3 q4 x2 ma mb HXr
          go_upto_region 10 with fail
          generalize hsx : wr.heap.size = sx at KX ⊢
          generalize hwx : wr.alloc _ = wx at KX HWX HAX ⊢
          clear hwx hsx u0 u1 u2 u3 HB HA BX x0 x1
          generalize pc (endA S j) = va at ca la C1
          generalize pc (endB S j) = vb at cb' lb' C2
          generalize pc (nxt ms (endA S j)) = vna at cna lna C2
          generalize pc (nxt ms (endB S j)) = vnb at cnb lnb C1
          generalize nx (ms (endA S j).1) (endA S j).2 = na at cna za CA
          generalize nx (ms (endB S j).1) (endB S j).2 = nb at cnb zb CB
          have ma8 := (HM8.out _ r1).2
          have mb8 := (HM8.out _ r3).2
          generalize ms (endA S j).1 = m1 at r2 za ma8
          generalize ms (endB S j).1 = m2 at r4 zb mb8
          generalize (endA S j).1 = a1 at *
          generalize (endA S j).2 = a2 at *
          generalize (endB S j).1 = c1 at *
          generalize (endB S j).2 = c2 at *
          have f1 : (0 : Int) ≤ (a1 : Int) := Int.natCast_nonneg _
          have f2 : (0 : Int) ≤ (a2 : Int) := Int.natCast_nonneg _
          have f3 : (0 : Int) ≤ (c1 : Int) := Int.natCast_nonneg _
          have f4 : (0 : Int) ≤ (c2 : Int) := Int.natCast_nonneg _
          have f5 : (0 : Int) ≤ (va : Int) := Int.natCast_nonneg _
          have f6 : (0 : Int) ≤ (vb : Int) := Int.natCast_nonneg _
          have f7 : (0 : Int) ≤ (vna : Int) := Int.natCast_nonneg _
          have f8 : (0 : Int) ≤ (vnb : Int) := Int.natCast_nonneg _
          have g5 : (va : Int) < (E : Int) := by omega
          have g6 : (vb : Int) < (E : Int) := by omega
          have g7 : (vna : Int) < (E : Int) := by omega
          have g8 : (vnb : Int) < (E : Int) := by omega
          obtain ⟨s0, s1, s2, s3⟩ := blk4 KX.out
          go_upto_region 12 with fail
          have s0' := bey_cell s0
          have s1' := bey_cell s1
          refine wp_region_below (by kernel_rfl) (by kernel_rfl) ?_
          repeat (go_big_quiet_step (first | (go_at_call 109; with_reducible exact bey_same _ (CA.out _ (HX.out.below (below_then HWX.out (Beyond.h _)))))))
          refine wpQuiet_nil ?_
          rintro _ ⟨pq, rfl⟩
          have HWq := Lib.hid (below_then HWX.out pq.h)
          have HAq := Lib.hid (HAX.out.below pq.h)
          have KXq := Lib.hid (Ge.blk_keep pq.h KX.out)
          generalize pq.to = wq at HWq HAq KXq ⊢
          clear s0 s1 s2 s3 s0' s1' KX HWX HAX
          obtain ⟨s0, s1, s2, s3⟩ := blk4 KXq.out
          go_upto_region 13 with fail
          have s2' := bey_cell s2
          have s3' := bey_cell s3
          refine wp_region_below (by kernel_rfl) (by kernel_rfl) ?_
          repeat (go_big_quiet_step (first | (go_at_call 109; with_reducible exact bey_same _ (CB.out _ (HX.out.below (below_then HWq.out (Beyond.h _)))))))
          refine wpQuiet_nil ?_
          rintro _ ⟨pr, rfl⟩
          have HWr := Lib.hid (below_then HWq.out pr.h)
          have HAr := Lib.hid (HAq.out.below pr.h)
          generalize pr.to = wr1 at HWr HAr ⊢
          clear s0 s1 s2 s3 s2' s3' KXq HWq HAq CA CB
          have l0 : wr1.cell? ⟨gl, va, none⟩ = some (.int .i64 (L (2 * j) va : Int)) := HAr.out.2.1 _ la
          have l2 : wr1.cell? ⟨gl, vnb, none⟩ = some (.int .i64 (L (2 * j) vnb : Int)) := HAr.out.2.1 _ lnb
          go_upto_region 14 with fail
          generalize hla : L (2 * j) va = xa1 at l0 C1
          generalize hlb : L (2 * j) vnb = xb1 at l2 C1
          go_still_tail 9, (by kernel_rfl)
          change wpList _ _ _ _ _ wr1.drew
          have HAd := Lib.hid (HAr.out.below (Below.drew (Below.refl _ _)))
          have HWd := Lib.hid (Below.drew HWr.out)
          clear l0 l2 HAr HWr
          generalize wr1.drew = wd at HAd HWd ⊢
          go_wp2_with fail
          refine (C1.out wd _ HAd.out).mono ?_
          rintro e wr2 ⟨rfl, ha3, hb3⟩
          have HAs := Lib.hid ha3
          have HWs := Lib.hid (HWd.out.trans (hb3.below (by omega) HWd.out.size))
          clear ha3 hb3 C1 HAd HWd hla hlb
          have l0 : wr2.cell? ⟨gl, vna, none⟩ = some (.int .i64 (L (2 * j + 1) vna : Int)) := HAs.out.2.1 _ lna
          have l2 : wr2.cell? ⟨gl, vb, none⟩ = some (.int .i64 (L (2 * j + 1) vb : Int)) := HAs.out.2.1 _ lb'
          go_upto_region 15 with fail
          generalize hla : L (2 * j + 1) vna = xa2 at l0 C2
          generalize hlb : L (2 * j + 1) vb = xb2 at l2 C2
          go_still_tail 9, (by kernel_rfl)
          change wpList _ _ _ _ _ wr2.drew
          have HAd := Lib.hid (HAs.out.below (Below.drew (Below.refl _ _)))
          have HWd := Lib.hid (Below.drew HWs.out)
          clear l0 l2 HAs HWs
          generalize wr2.drew = wd at HAd HWd ⊢
          go_wp2_with fail
          refine (C2.out wd _ HAd.out).mono ?_
          rintro e wr3 ⟨rfl, ha3, hb3⟩
          have HAt := Lib.hid ha3
          have HWt := Lib.hid (HWd.out.trans (hb3.below (by omega) HWd.out.size))
          clear ha3 hb3 C2 HAd HWd hla hlb
          go_wp2_with fail
          go_roundw
          case rel => exact ⟨j + 1, hj1, by go_num, HWt, by rw [show 2 * (j + 1) = 2 * j + 1 + 1 by omega]; exact HAt⟩
          case measure => simp [intOf]; omega
        · have hjk : j = k := by omega
          have e1 : ¬ (j : Int) < (k : Int) := by omega
          rw [hjk] at HA
          clear hjk e0 hj HXr HPT HTW CJ CN
          have HXe := Lib.hid (HX.out.below HB.out)
          have HBe := HB
          have HAe := HA
          clear HB HA HX
          go_wp2_with fail
          clear x0 x1 x2
          go_loop [11, 12, 13, 14] (fun q i _ _ => ∃ p : Nat, p ≤ n ∧ i = .int .i64 (p : Int) ∧ q = .int .i64 (cc cb (sumN ms p) : Int)) (fun _ i _ _ => n - (intOf i).toNat)
          case atStart => exact ⟨0, Nat.zero_le _, rfl, rfl⟩
          case round =>
            obtain ⟨p, hp, rfl, rfl⟩ := hrel
            have e0 : (0 : Int) ≤ (p : Int) := Int.natCast_nonneg _
            obtain ⟨x0, x1, x2⟩ := blk3 HXe.out.blk
            by_cases hlt : p < n
            · have e1 : (p : Int) < (n : Int) := by omega
              have hp1 : p + 1 ≤ n := by omega
              obtain ⟨As, cs, hR⟩ := HXe.out.pat.pcs
              obtain ⟨bp, op, rfl, hbp, hc⟩ := hR.out (by omega)
              have u1 := (hc p hlt).2
              have hse := HSE.out p hlt
              have m8 := (HM8.out p hlt).2
              have HCp := Lib.hid (fun q hq => HCB.out p q hlt hq)
              have HSS : Hid (cc cb (sumN ms (p + 1)) = cc cb (sumN ms p + ms p)) := Lib.hid rfl
              have hcl := cc_le cb (sumN ms p)
              generalize ms p = m at *
              generalize sumN ms p = s0 at *
              clear hR hc
              go_wp2_with fail
              go_loop [11, 13, 14] (fun q i _ => ∃ r : Nat, r ≤ m ∧ i = .int .i64 (r : Int) ∧ q = .int .i64 (cc cb (s0 + r) : Int)) (fun _ i _ => m - (intOf i).toNat)
              case atStart => exact ⟨0, Nat.zero_le _, rfl, rfl⟩
              case round =>
                obtain ⟨r, hr, rfl, rfl⟩ := hrel
                have e2 : (0 : Int) ≤ (r : Int) := Int.natCast_nonneg _
                by_cases hlr : r < m
                · have e3 : (r : Int) < (m : Int) := by omega
                  have hr1 : r + 1 ≤ m := by omega
                  obtain ⟨v, hv⟩ : ∃ v, v = 8 * p + r := ⟨_, rfl⟩
                  have hvi : 8 * (p : Int) + (r : Int) = (v : Int) := by omega
                  have hvE : v < E := by omega
                  have e4 : (0 : Int) ≤ (v : Int) := Int.natCast_nonneg _
                  have e5 : (v : Int) < (E : Int) := by omega
                  have hcq := HCp.out r hlr
                  rw [← hv] at hcq
                  have hcs : cc cb (s0 + (r + 1)) = cc cb (s0 + r) + (if cb (s0 + r) then 1 else 0) := rfl
                  have hcl2 := cc_le cb (s0 + r)
                  have l0 : wr.cell? ⟨gl, v, none⟩ = some (.int .i64 (L (2 * k) v : Int)) := HAe.out.2.1 v hvE
                  generalize L (2 * k) v = lv at l0 hcq
                  generalize cc cb (s0 + r) = q0 at hcs hcl2 ⊢
                  clear hv
                  by_cases e : lv = v
                  · rw [e] at l0
                    rw [hcq, if_pos (by simpa using e)] at hcs
                    go_wp2_with fail
                    go_round
                    case rel => exact ⟨r + 1, hr1, by go_num, by rw [hcs]; go_num⟩
                    case measure => simp [intOf]; omega
                  · rw [hcq, if_neg (by simpa using e)] at hcs
                    have hne : ((lv : Int) == (v : Int)) = false := by
                      have : ¬ (lv : Int) = (v : Int) := by omega
                      simpa using this
                    go_wp2_with fail
                    go_round
                    case rel => exact ⟨r + 1, hr1, by go_num, by rw [hcs]; go_num⟩
                    case measure => simp [intOf]; omega
                · have hrm : r = m := by omega
                  have e3 : ¬ (r : Int) < (m : Int) := by omega
                  rw [hrm]
                  go_wp2_with fail
                  go_round
                  case rel => exact ⟨p + 1, hp1, by go_num, by rw [HSS.out]⟩
                  case measure => simp [intOf]; omega
            · have hpn : p = n := by omega
              have e1 : ¬ (p : Int) < (n : Int) := by omega
              rw [hpn]
              go_wp2_with fail
              go_ret
              exact ⟨rfl, by rw [← hgw]; exact HBe.out⟩
end Go.Proofs.Ytnojnikophpnoaa.Ux
