/- Openings: the open edge behind one, the program's and the spec's. -/
import Derived.Test.YtpmmfalpcooenabVcLib
import Derived.Deep.LoopGhost
namespace Go.Proofs.Ytpmmfalpcooenab.Vd
set_option linter.unusedVariables false
open Go.RowKit Go.Maps Ft Is Ge Qb Pt Pv Za Mm Zb Zc Zd Vq Sdq Sdu Uf Uc Ux Vo Vc

theorem it_one (ms : Nat → Nat) (S : Nat → Int) (k : Nat) {x : Nat × Nat} (h : mate S k x = none) : it ms S k 1 x = nxt ms x := by
  show nxt ms (sg S k x) = _
  unfold sg; rw [h]; rfl
theorem it_next (ms : Nat → Nat) (S : Nat → Int) (k : Nat) {x y : Nat × Nat} {r : Nat} (h : mate S k (it ms S k r x) = some y) : it ms S k (r + 1) x = nxt ms y := by
  show nxt ms (sg S k (it ms S k r x)) = _
  unfold sg; rw [h]; rfl
set_option maxRecDepth 100000 in
set_option maxHeartbeats 2000000 in
theorem behind {n : Nat} {ms : Nat → Nat} {ds : Nat → Nat → Int} {S : Nat → Int} {k : Nat} (hG : Vc.Good n ms S k) {B : Nat} {w : World} {es : Value} {bm : Nat} {P : Nat × Nat → Nat} {g : Lit → Option Value} (hS : Surf B n ms ds (plc ms n) (plc ms n) (mate S k) es bm P g w) {x : Nat × Nat} (hx : x ∈ plc ms n) (ho : mate S k x = none) :
    Calls Try.prog 146 #[.pointer (some ⟨P x, 0, none⟩)] w fun e w' => e = .returned (.pointer (some ⟨P (fol ms S k x), 0, none⟩)) ∧ w = w' := by
  obtain ⟨R, hR, hF⟩ := hG.fol hx ho
  rw [(fr_of hF).2]
  have HC : Hid (∀ y, y ∈ plc ms n → w.cell? ⟨P y, 3, none⟩ = some (.pointer (some ⟨P (nxt ms y), 0, none⟩)) ∧ w.cell? ⟨P y, 4, none⟩ = some (.pointer (opA P (mate S k) y)) ∧ P y < w.heap.size) := Lib.hid fun y hy => by
    obtain ⟨h1, h2⟩ := mem_plc.1 hy
    have e := (hS.edg y h1 h2).1
    obtain ⟨_, _, _, c3, c4⟩ := blk5 e
    rw [op_eq] at c4
    exact ⟨c3, c4, lt_of_heap e⟩
  have HM : Hid (∀ r, it ms S k r x ∈ plc ms n) := Lib.hid fun r => hG.it_mem hx r
  have HB : Hid (∀ r y, mate S k (it ms S k r x) = some y → y ∈ plc ms n ∧ it ms S k (r + 1) x = nxt ms y) := Lib.hid fun r y h => ⟨(hG.back h).2, it_next ms S k h⟩
  have H1 : Hid (it ms S k 1 x = nxt ms x) := Lib.hid (it_one ms S k ho)
  have HFo := Lib.hid hF
  obtain ⟨a0, _, la⟩ := HC.out x hx
  rw [← H1.out] at a0
  clear hG hS ho hF hx
  go_enter Try.func146, Try.ntmps146
  go_wp2_with fail
  clear a0
  have hR1 := HFo.out.1
  go_loopg [3] (R - 1) (fun gk v wr => ∃ r : Nat, 1 ≤ r ∧ r ≤ R ∧ gk = R - r ∧ v = .pointer (some ⟨P (it ms S k r x), 0, none⟩) ∧ w = wr)
  case atStart => exact ⟨1, Nat.le_refl _, hR1, rfl, rfl, rfl⟩
  case round =>
    obtain ⟨r, r1, rR, rfl, rfl, rfl⟩ := hrel
    obtain ⟨c3, c4, lz⟩ := HC.out _ (HM.out r)
    have CO := Lib.hid (is_open _ _ w c4)
    rw [opA_none] at CO
    cases hm : mate S k (it ms S k r x) with
    | none =>
      have e : r = R := by
        rcases Nat.lt_or_eq_of_le rR with q | q
        · exact absurd hm (HFo.out.2.2 r r1 q)
        · exact q
      subst e
      rw [hm] at CO
      clear c3 c4
      go_wp2_with fail
      refine CO.out.mono ?_
      rintro e w1 ⟨rfl, rfl⟩
      go_wp2_with fail
      go_ret
      exact ⟨rfl, rfl⟩
    | some y =>
      obtain ⟨y1, y2⟩ := HB.out r y hm
      have e : r < R := by
        rcases Nat.lt_or_eq_of_le rR with q | q
        · exact q
        · have := HFo.out.2.1; rw [← q, hm] at this; cases this
      obtain ⟨d3, _, ly⟩ := HC.out y y1
      rw [← y2] at d3
      have eo : opA P (mate S k) (it ms S k r x) = some ⟨P y, 0, none⟩ := by unfold opA; rw [hm]
      rw [eo] at c4
      rw [hm] at CO
      clear c3 eo y2
      go_wp2_with fail
      refine CO.out.mono ?_
      rintro e w1 ⟨rfl, rfl⟩
      go_wp2_with fail
      go_roundg (R - (r + 1))
      case measure => omega
      case rel => exact ⟨r + 1, by omega, by omega, rfl, rfl, rfl⟩
/-- A place. -/
def PlAt (y : Nat × Nat) (w : World) (e : Ending) (w' : World) : Prop := e = .returned (.tuple #[.int .i64 (y.1 : Int), .int .i64 (y.2 : Int)]) ∧ Below w.heap.size w w'
set_option maxRecDepth 100000 in
set_option maxHeartbeats 2000000 in
theorem s_mate (g : Nat) (A : Option Addr) (n c : Nat) (N : Nat → ByteArray) (ms : Nat → Nat) (ds : Nat → Nat → Int) (Y : Option Addr) (k sc : Nat) (S : Nat → Int) (o : Int) (hz : Small n N ms k) (hP : PatP n N ms ds k S o) {x y : Nat × Nat} (hm : mate S k x = some y) (w : World) (h : Boxed w g A n c N ms ds Y k sc S o) :
    Calls Try.prog 167 #[.pointer (some ⟨g, 0, none⟩), .int .i64 (x.1 : Int), .int .i64 (x.2 : Int)] w (PlAt y w) := by
  obtain ⟨_, hkk, _⟩ := hz.at
  have hG := good_of hP
  have HX := Lib.hid h
  have HPT : Hid (∀ j, j < k → S (j * 4) = ((endA S j).1 : Int) ∧ S (j * 4 + 1) = ((endA S j).2 : Int) ∧ S (j * 4 + 2) = ((endB S j).1 : Int) ∧ S (j * 4 + 3) = ((endB S j).2 : Int)) := Lib.hid fun j hj => by
    obtain ⟨i1, i2, i3, i4⟩ := endA_int (hP.2.2 j hj).1
    exact ⟨i1.symm, i2.symm, i3.symm, i4.symm⟩
  have HA : Hid (∀ j, j < k → x = endA S j → y = endB S j) := Lib.hid fun j hj e => by
    have := (mate_ends hG.sew j hj).1
    rw [← e, hm] at this; injection this
  have HB : Hid (∀ j, j < k → x = endB S j → y = endA S j) := Lib.hid fun j hj e => by
    have := (mate_ends hG.sew j hj).2
    rw [← e, hm] at this; injection this
  have HN : Hid (∃ j, j < k ∧ (x = endA S j ∨ x = endB S j)) := Lib.hid (by
    obtain ⟨j, hj, ⟨e, _⟩ | ⟨e, _⟩⟩ := mate_some hm
    · exact ⟨j, hj, .inl e.symm⟩
    · exact ⟨j, hj, .inr e.symm⟩)
  have HF : Hid (∀ W, Below w.heap.size w W → PlAt y w (.returned (.tuple #[.int .i64 (y.1 : Int), .int .i64 (y.2 : Int)])) W) := Lib.hid fun W h => ⟨rfl, h⟩
  clear hz hP hG h hm
  generalize PlAt y w = Q at HF ⊢
  go_enter Try.func167, Try.ntmps167
  go_wp2_with fail
  go_loopw [8, 9] (fun i _ wr => ∃ j : Nat, j ≤ k ∧ i = .int .i64 (j : Int) ∧ Hid (Below w.heap.size w wr) ∧ Hid (∀ q, q < j → x ≠ endA S q ∧ x ≠ endB S q)) (fun i _ _ => k - (intOf i).toNat)
  case atStart => exact ⟨0, Nat.zero_le _, rfl, Lib.hid (Below.refl _ _), Lib.hid fun q hq => by omega⟩
  case round =>
    obtain ⟨j, hj, rfl, HB1, HD⟩ := hrel
    have e0 : (0 : Int) ≤ (j : Int) := Int.natCast_nonneg _
    have HXr := Lib.hid (HX.out.below HB1.out)
    obtain ⟨x0, x1, x2⟩ := blk3 HXr.out.blk
    by_cases hlt : j < k
    · have e1 : (j : Int) < (k : Int) := by omega
      have hj1 : j + 1 ≤ k := by omega
      obtain ⟨b1, o1, rfl, hb1, hc1⟩ := HXr.out.pat.seams (by omega)
      obtain ⟨u0, u1, u2, u3⟩ := four_cells hc1 hlt
      obtain ⟨q1, q2, q3, q4⟩ := HPT.out j hlt
      rw [q1] at u0
      rw [q2] at u1
      rw [q3] at u2
      rw [q4] at u3
      have HAj := Lib.hid (HA.out j hlt)
      have HBj := Lib.hid (HB.out j hlt)
      have BX := Lib.hid (below_box wr (.cells #[.int .i64 ((endA S j).1 : Int), .int .i64 ((endA S j).2 : Int), .int .i64 ((endB S j).1 : Int), .int .i64 ((endB S j).2 : Int)] 162))
      have KX := Lib.hid (heap_alloc_new wr (.cells #[.int .i64 ((endA S j).1 : Int), .int .i64 ((endA S j).2 : Int), .int .i64 ((endB S j).1 : Int), .int .i64 ((endB S j).2 : Int)] 162))
      have HWX := Lib.hid (below_then HB1.out BX.out)
      clear hc1 q1 q2 q3 q4
      go_upto_region 5 with fail
      generalize hsx : wr.heap.size = sx at KX ⊢
      generalize hwx : wr.alloc _ = wx at KX HWX ⊢
      clear hwx hsx u0 u1 u2 u3 x0 x1 x2 HXr BX
      obtain ⟨s0, s1, s2, s3⟩ := blk4 KX.out
      have HDD : Hid (x ≠ endA S j → x ≠ endB S j → Hid (∀ q, q < j + 1 → x ≠ endA S q ∧ x ≠ endB S q)) := Lib.hid fun h1 h2 => Lib.hid fun q hq => by
        by_cases e : q = j
        · rw [e]; exact ⟨h1, h2⟩
        · exact HD.out q (by omega)
      by_cases eA : x = endA S j
      · have ey := HAj.out eA
        rw [← eA] at s0 s1
        rw [← ey] at s2 s3
        clear ey eA HAj HBj HDD
        go_upto_region 6 with fail
        have s0 := bey_cell s0
        have s1 := bey_cell s1
        have s2 := bey_cell s2
        have s3 := bey_cell s3
        refine wp_region_below (by kernel_rfl) (by kernel_rfl) ?_
        repeat (go_big_quiet_step (fail))
        refine wpQuiet_nil ?_
        rintro _ ⟨pq, rfl⟩
        have HZ := Lib.hid (HF.out _ (below_then HWX.out pq.h))
        generalize pq.to = wq at HZ ⊢
        clear s0 s1 s2 s3
        go_wp2_with fail
        exact HZ.out
      · by_cases a1 : (endA S j).1 = x.1
        · have a2 : (((endA S j).2 : Int) == (x.2 : Int)) = false := by
            have : ¬ ((endA S j).2 : Int) = (x.2 : Int) := fun q => eA (Prod.ext a1.symm (by omega))
            simpa using this
          rw [a1] at s0
          by_cases eB : x = endB S j
          · have ey := HBj.out eB
            rw [← eB] at s2 s3
            rw [← a1] at s0
            rw [← ey] at s0 s1 a2
            have a3 : ((y.1 : Int) == (x.1 : Int)) = true := by rw [ey, a1]; simp
            clear ey eB eA a1 HAj HBj HDD
            go_upto_region 8 with fail
            have s0 := bey_cell s0
            have s1 := bey_cell s1
            have s2 := bey_cell s2
            have s3 := bey_cell s3
            refine wp_region_below (by kernel_rfl) (by kernel_rfl) ?_
            repeat (go_big_quiet_step (fail))
            refine wpQuiet_nil ?_
            rintro _ ⟨pq, rfl⟩
            have HZ := Lib.hid (HF.out _ (below_then HWX.out pq.h))
            generalize pq.to = wq at HZ ⊢
            clear s0 s1 s2 s3
            go_wp2_with fail
            exact HZ.out
          · by_cases b1 : (endB S j).1 = x.1
            · have b2 : (((endB S j).2 : Int) == (x.2 : Int)) = false := by
                have : ¬ ((endB S j).2 : Int) = (x.2 : Int) := fun q => eB (Prod.ext b1.symm (by omega))
                simpa using this
              rw [b1] at s2
              go_wp2_with fail
              go_roundw
              case rel => exact ⟨j + 1, hj1, by go_num, HWX, HDD.out eA eB⟩
              case measure => simp [intOf]; omega
            · have b2 : (((endB S j).1 : Int) == (x.1 : Int)) = false := by
                have : ¬ ((endB S j).1 : Int) = (x.1 : Int) := fun q => b1 (by omega)
                simpa using this
              go_wp2_with fail
              go_roundw
              case rel => exact ⟨j + 1, hj1, by go_num, HWX, HDD.out eA eB⟩
              case measure => simp [intOf]; omega
        · have a2 : (((endA S j).1 : Int) == (x.1 : Int)) = false := by
            have : ¬ ((endA S j).1 : Int) = (x.1 : Int) := fun q => a1 (by omega)
            simpa using this
          by_cases eB : x = endB S j
          · have ey := HBj.out eB
            rw [← eB] at s2 s3
            rw [← ey] at s0 s1 a2
            clear ey eB eA HAj HBj HDD
            go_upto_region 8 with fail
            have s0 := bey_cell s0
            have s1 := bey_cell s1
            have s2 := bey_cell s2
            have s3 := bey_cell s3
            refine wp_region_below (by kernel_rfl) (by kernel_rfl) ?_
            repeat (go_big_quiet_step (fail))
            refine wpQuiet_nil ?_
            rintro _ ⟨pq, rfl⟩
            have HZ := Lib.hid (HF.out _ (below_then HWX.out pq.h))
            generalize pq.to = wq at HZ ⊢
            clear s0 s1 s2 s3
            go_wp2_with fail
            exact HZ.out
          · by_cases b1 : (endB S j).1 = x.1
            · have b2 : (((endB S j).2 : Int) == (x.2 : Int)) = false := by
                have : ¬ ((endB S j).2 : Int) = (x.2 : Int) := fun q => eB (Prod.ext b1.symm (by omega))
                simpa using this
              rw [b1] at s2
              go_wp2_with fail
              go_roundw
              case rel => exact ⟨j + 1, hj1, by go_num, HWX, HDD.out eA eB⟩
              case measure => simp [intOf]; omega
            · have b2 : (((endB S j).1 : Int) == (x.1 : Int)) = false := by
                have : ¬ ((endB S j).1 : Int) = (x.1 : Int) := fun q => b1 (by omega)
                simpa using this
              go_wp2_with fail
              go_roundw
              case rel => exact ⟨j + 1, hj1, by go_num, HWX, HDD.out eA eB⟩
              case measure => simp [intOf]; omega
    · obtain ⟨q, hq, e⟩ := HN.out
      have := HD.out q (by omega)
      rcases e with e | e
      · exact absurd e this.1
      · exact absurd e this.2
end Go.Proofs.Ytpmmfalpcooenab.Vd
