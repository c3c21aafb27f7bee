/- Openings: the spec's l08Follow; runs round an opening, plain. -/
import Derived.Test.YtpmmfalpcooenabVdLib
namespace Go.Proofs.Ytpmmfalpcooenab.Vf
set_option linter.unusedVariables false
open Go.RowKit Go.Maps Ft Is Ge Qb Pt Pv Za Mm Zb Zc Zd Vq Sdq Sdu Uf Uc Ux Vo Vc Vd

set_option maxRecDepth 100000 in
set_option maxHeartbeats 2000000 in
theorem s_follow (g : Nat) (A : Option Addr) (n c : Nat) (N : Nat → ByteArray) (ms : Nat → Nat) (ds : Nat → Nat → Int) (Y : Option Addr) (k sc : Nat) (S : Nat → Int) (o : Int) (hz : Small n N ms k) (hP : PatP n N ms ds k S o) {x : Nat × Nat} (hx : x ∈ plc ms n) (ho : mate S k x = none) (w : World) (h : Boxed w g A n c N ms ds Y k sc S o) :
    Calls Try.prog 162 #[.pointer (some ⟨g, 0, none⟩), .int .i64 (x.1 : Int), .int .i64 (x.2 : Int)] w (PlAt (fol ms S k x) w) := by
  obtain ⟨p1, p2, p3, p4⟩ := pat_in hP
  have hG := good_of hP
  obtain ⟨R, hR, hF⟩ := hG.fol hx ho
  rw [(fr_of hF).2]
  have HX := Lib.hid h
  have HFo := Lib.hid hF
  have CN := Lib.hid (fun (z : Nat × Nat) (hz' : z ∈ plc ms n) W hW => s_next g A n c N ms ds Y k sc S o z.1 z.2 (mem_plc.1 hz').1 ⟨by have := p2 _ (mem_plc.1 hz').1; omega, (p2 _ (mem_plc.1 hz').1).2⟩ (mem_plc.1 hz').2 W hW)
  have CM := Lib.hid (fun (z y : Nat × Nat) (hm : mate S k z = some y) W hW => s_mate g A n c N ms ds Y k sc S o hz hP hm W hW)
  have CT := Lib.hid (fun (z : Nat × Nat) W hW => times g A n c N ms ds Y k sc S o (z.1 : Int) (z.2 : Int) hz W hW)
  have HT : Hid (∀ z : Nat × Nat, mate S k z = none ↔ tmN S (z.1 : Int) (z.2 : Int) k = 0) := Lib.hid fun z => mate_none (n := n) (ms := ms) (S := S) (j := k) (fun i hi => (hP.2.2 i hi).1) z
  have HM : Hid (∀ r, it ms S k r x ∈ plc ms n) := Lib.hid fun r => hG.it_mem hx r
  have HB : Hid (∀ r y, mate S k (it ms S k r x) = some y → y ∈ plc ms n ∧ it ms S k (r + 1) x = nxt ms y) := Lib.hid fun r y h => ⟨(hG.back h).2, it_next ms S k h⟩
  have H1 := it_one ms S k ho
  have hR1 := HFo.out.1
  have C0 := Lib.hid (CN.out x hx w h)
  have HN : Hid (∀ z : Nat × Nat, (nxt ms z).1 = z.1 ∧ (nxt ms z).2 = nx (ms z.1) z.2) := Lib.hid fun z => ⟨rfl, rfl⟩
  rw [← (HN.out x).2, ← H1] at C0
  have hx1 : ((it ms S k 1 x).1 : Int) = (x.1 : Int) := by rw [H1, (HN.out x).1]
  have HQ : Hid (∀ W, Below w.heap.size w W → PlAt (it ms S k R x) w (.returned (.tuple #[.int .i64 ((it ms S k R x).1 : Int), .int .i64 ((it ms S k R x).2 : Int)])) W) := Lib.hid fun W h => ⟨rfl, h⟩
  clear hG h ho hF hx hz hP p2 p3 p4 H1
  generalize PlAt (it ms S k R x) w = Q at HQ ⊢
  go_enter Try.func162, Try.ntmps162
  go_wp2_with fail
  refine C0.out.mono ?_
  rintro e w1 ⟨rfl, rfl⟩
  clear C0
  go_wp2_with fail
  go_loopg [1, 2] (R - 1) (fun gk u v wr => ∃ r : Nat, 1 ≤ r ∧ r ≤ R ∧ gk = R - r ∧ u = .int .i64 ((it ms S k r x).1 : Int) ∧ v = .int .i64 ((it ms S k r x).2 : Int) ∧ Hid (Below w.heap.size w wr))
  case atStart => exact ⟨1, Nat.le_refl _, hR1, rfl, by rw [hx1], rfl, Lib.hid (Below.refl _ _)⟩
  case round =>
    clear hx1
    obtain ⟨r, r1, rR, rfl, rfl, rfl, HW⟩ := hrel
    have HXr := Lib.hid (HX.out.below HW.out)
    have C := Lib.hid (CT.out (it ms S k r x) wr HXr.out)
    have t1 := HT.out (it ms S k r x)
    cases hm : mate S k (it ms S k r x) with
    | none =>
      have e : r = R := by
        rcases Nat.lt_or_eq_of_le rR with q | q
        · exact absurd hm (HFo.out.2.2 r r1 q)
        · exact q
      subst e
      rw [t1.1 hm] at C
      clear t1
      go_wp2_with fail
      refine C.out.mono ?_
      rintro e w2 ⟨rfl, b2⟩
      have HZ := Lib.hid (HQ.out _ (below_then HW.out b2))
      clear b2
      go_wp2_with fail
      exact HZ.out
    | some y =>
      obtain ⟨y1, y2⟩ := HB.out r y hm
      have e : r < R := by
        rcases Nat.lt_or_eq_of_le rR with q | q
        · exact q
        · have := HFo.out.2.1; rw [← q, hm] at this; cases this
      have t2 : (0 : Int) < (tmN S ((it ms S k r x).1 : Int) ((it ms S k r x).2 : Int) k : Int) := by
        have : ¬ tmN S ((it ms S k r x).1 : Int) ((it ms S k r x).2 : Int) k = 0 := fun q => by rw [t1.2 q] at hm; cases hm
        omega
      have CMr := Lib.hid (CM.out _ _ hm)
      have CNr := Lib.hid (CN.out y y1)
      rw [← (HN.out y).2, ← y2] at CNr
      have hy1 : ((it ms S k (r + 1) x).1 : Int) = (y.1 : Int) := by rw [y2, (HN.out y).1]
      generalize tmN S ((it ms S k r x).1 : Int) ((it ms S k r x).2 : Int) k = tm at C t2
      clear t1 y2
      go_wp2_with fail
      refine C.out.mono ?_
      rintro e w2 ⟨rfl, b2⟩
      have HW2 := Lib.hid (below_then HW.out b2)
      clear b2 C HW HXr
      go_wp2_with fail
      refine (CMr.out w2 (HX.out.below HW2.out)).mono ?_
      rintro e w3 ⟨rfl, b3⟩
      have HW3 := Lib.hid (below_then HW2.out b3)
      clear b3 CMr HW2
      go_wp2_with fail
      refine (CNr.out w3 (HX.out.below HW3.out)).mono ?_
      rintro e w4 ⟨rfl, rfl⟩
      go_wp2_with fail
      go_roundg (R - (r + 1))
      case measure => omega
      case rel => exact ⟨r + 1, by omega, by omega, rfl, by rw [hy1], rfl, HW3⟩
end Go.Proofs.Ytpmmfalpcooenab.Vf
