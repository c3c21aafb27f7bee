/- The walk of the law of ReadPiece. -/
import Derived.Test.YtnojnikophpnoaaDoorPrjLib
import Derived.Deep.RegionHeld3
import Derived.Deep.DeepCutAuto
namespace Go.Proofs.YtnojnikophpnoaaDoor.Prl
open Go.RowKit Go.Proofs.YtnojnikophpnoaaDoor.Ft Is Ge Qb Bw Pt
set_option linter.unusedVariables false

/-- A row of the call's own, from its block's first cell. -/
def Own0 (w : World) (B : Nat) (A : Option Addr) (n : Nat) (f : Nat → Int) : Prop := 0 < n → ∃ g, A = some ⟨g, 0, none⟩ ∧ B ≤ g ∧ At w g n f
theorem Own0.nums {w : World} {B n : Nat} {A : Option Addr} {f : Nat → Int} (h : Own0 w B A n f) : Nums w w.heap.size A n f := fun hn => by
  obtain ⟨g, e, _, h1, h2, _⟩ := h hn
  exact ⟨g, 0, e, h1, fun i hi => by rw [Nat.zero_add]; exact h2 i hi⟩
theorem Own0.below {w w' : World} {B n : Nat} {A : Option Addr} {f : Nat → Int} (h : Own0 w B A n f) (hb : Below w.heap.size w w') : Own0 w' B A n f := fun hn => by
  obtain ⟨g, e, h0, h1⟩ := h hn
  exact ⟨g, e, h0, h1.below hb⟩
theorem own0_of {w : World} {B n : Nat} {A : Option Addr} {f : Nat → Int} (h : Own w B A n f) (h0 : 0 < n → ∃ g, A = some ⟨g, 0, none⟩) : Own0 w B A n f := fun hn => by
  obtain ⟨g, e⟩ := h0 hn
  obtain ⟨b, off, e', h1, h2, h3, h4⟩ := h hn
  rw [e] at e'
  injection e' with e'
  injection e' with e1 e2
  subst e1 e2
  exact ⟨g, e, h1, h2, fun i hi => by have := h3 i hi; rwa [Nat.zero_add] at this, h4⟩
/-- What keeps every block but a row's. -/
def ButA (A : Option Addr) (n : Nat) (w w' : World) : Prop := if n = 0 then Below w.heap.size w w' else ∃ g, A = some ⟨g, 0, none⟩ ∧ But g w w'
theorem ButA.low {A : Option Addr} {n B : Nat} {w w' : World} {f : Nat → Int} (h : ButA A n w w') (ho : Own0 w B A n f) (hB : B ≤ w.heap.size) : Below B w w' := by
  unfold ButA at h
  split at h
  · exact h.mono hB
  · rename_i hn
    obtain ⟨g, e, hg⟩ := h
    obtain ⟨g', e', h1, h2⟩ := ho (by omega)
    rw [e] at e'
    injection e' with e'
    injection e' with e1 e2
    subst e1
    exact hg.below h1 hB
theorem ButA.blk {A : Option Addr} {n B k : Nat} {w w' : World} {f : Nat → Int} {o : Obj} (h : ButA A n w w') (hk : w.heap[k]? = some o) (hne : 0 < n → ∀ g, A = some ⟨g, 0, none⟩ → k ≠ g) : w'.heap[k]? = some o := by
  unfold ButA at h
  split at h
  · exact Ge.blk_keep h hk
  · rename_i hn
    obtain ⟨g, e, hg⟩ := h
    exact blk_but hk hg (hne (by omega) g e)
set_option maxHeartbeats 1000000 in
/-- The law's marks in a row. -/
theorem mark_row (g n c : Nat) (k0 : Int) (f : Nat → Int) (hn : n ≤ 1048576) (h0 : 0 ≤ k0) (h1 : k0 ≤ 1073741824) (w : World) (h : At w g n f) :
    Calls Tryd.prog 26 #[.slice (some ⟨g, 0, none⟩) n c, .int .i64 k0] w fun e w' => e = .returned (.int .i64 (k0 + (n : Int))) ∧ At w' g n (mk k0) ∧ But g w w' := by
  have HO : Hid (At w g n (Is.part k0 f 0)) := Lib.hid ⟨h.1, fun i hi => by rw [h.2.1 i hi]; simp [Is.part], h.2.2⟩
  have HE : Hid (∀ w', At w' g n (Is.part k0 f n) → At w' g n (mk k0)) := Lib.hid fun w' ho => ⟨ho.1, fun i hi => by rw [ho.2.1 i hi]; simp [Is.part, hi], ho.2.2⟩
  clear h
  go_enter Tryd.func26, Tryd.ntmps26
  go_wp2_with fail
  go_loopw [1, 5] (fun kk i wr => ∃ j : Nat, j ≤ n ∧ i = .int .i64 j ∧ kk = .int .i64 (k0 + (j : Int)) ∧ But g w wr ∧ Hid (At wr g n (Is.part k0 f j))) (fun _ i _ => n - (intOf i).toNat)
  case atStart => exact ⟨0, Nat.zero_le _, rfl, by simp, But.refl _ _, HO⟩
  case round =>
    obtain ⟨j, hj, rfl, rfl, hbut, hat⟩ := hrel
    have HB := Lib.hid hbut
    by_cases hlt : j < n
    · have x0 := hat.out.2.1 j hlt
      have z0 := hat.out.2.2 j
      have HN := Lib.hid (at_part (k0 := k0) (f := f) hat.out hlt)
      have HM : Hid (Is.mk k0 j = k0 + (j : Int)) := Lib.hid rfl
      clear hbut hj
      generalize Is.part k0 f j j = old at x0
      go_wp2_with fail
      rw [HM.out] at HN
      have HQ := Lib.hid (HB.out.setCell j (.int .i64 (k0 + (j : Int))))
      go_roundw
      case rel => exact ⟨j + 1, by omega, by go_num, by go_num, HQ.out, HN⟩
      case measure => simp [intOf]; omega
    · obtain rfl : j = n := by omega
      have HF := Lib.hid (HE.out _ hat.out)
      go_wp2_with fail
      go_ret
      exact ⟨rfl, HF.out, HB.out⟩
theorem mark_own (A : Option Addr) (n c : Nat) (k0 : Int) (f : Nat → Int) (hn : n ≤ 1048576) (h0 : 0 ≤ k0) (h1 : k0 ≤ 1048576) (B : Nat) (w : World) (h : Own0 w B A n f) :
    Calls Tryd.prog 26 #[.slice A n c, .int .i64 k0] w fun e w' => e = .returned (.int .i64 (mk k0 n)) ∧ Own0 w' B A n (mk k0) ∧ ButA A n w w' := by
  by_cases hz : n = 0
  · subst hz
    refine (mark_ints A 0 c k0 f hn h0 h1 w.heap.size w fun h => by omega).mono ?_
    rintro e w' ⟨he, _, hb⟩
    exact ⟨he, fun h => by omega, by unfold ButA; rw [if_pos rfl]; exact hb⟩
  · obtain ⟨g, rfl, hB, ha⟩ := h (by omega)
    refine (mark_row g n c k0 f hn h0 (by omega) w ha).mono ?_
    rintro e w' ⟨he, ha', hb⟩
    exact ⟨he, fun _ => ⟨g, rfl, hB, ha'⟩, by unfold ButA; rw [if_neg hz]; exact ⟨g, rfl, hb⟩⟩
theorem ButA.after {A : Option Addr} {n : Nat} {w w0 w' : World} (hb : Below w.heap.size w w0) (h : ButA A n w0 w') : ButA A n w w' := by
  unfold ButA at h ⊢
  split at h
  · rename_i hn; rw [if_pos hn]; exact below_then hb h
  · rename_i hn; rw [if_neg hn]
    obtain ⟨g, e, hg⟩ := h
    exact ⟨g, e, (But.of_below hb).trans hg⟩
set_option maxHeartbeats 1000000 in
theorem mark_piece (s : ByteArray) (A : Option Addr) (n c : Nat) (k0 : Int) (f : Nat → Int) (hn : n ≤ 1048576) (h0 : 0 ≤ k0) (h1 : k0 ≤ 1048576) (B : Nat) (w : World) (h : Own0 w B A n f) :
    Calls Tryd.prog 12 #[pcV s A n c, .int .i64 k0] w fun e w' => e = .returned (.int .i64 (mk k0 n)) ∧ Own0 w' B A n (mk k0) ∧ ButA A n w w' := by
  have HB := Lib.hid (below_box w (.cells #[.string s, .slice A n c] 27))
  have KB := Lib.hid (heap_alloc_new w (.cells #[.string s, .slice A n c] 27))
  have C := Lib.hid fun w h => mark_own A n c k0 f hn h0 h1 B w h
  have HO := Lib.hid (h.below HB.out)
  have HA : Hid (∀ w w0 w', Below w.heap.size w w0 → ButA A n w0 w' → ButA A n w w') := Lib.hid fun _ _ _ h k => k.after h
  clear h
  unfold pcV
  generalize mk k0 n = kn at C ⊢
  go_enter Tryd.func12, Tryd.ntmps12
  go_upto_region 1 with fail
  generalize w.alloc _ = w1 at HB KB HO ⊢
  obtain ⟨x0, x1⟩ := Pt.blk2 KB.out
  go_wp2_with fail
  refine (C.out _ HO.out).mono ?_
  rintro e w2 ⟨rfl, ho, hb⟩
  have HO2 := Lib.hid ho
  have HB2 := Lib.hid (HA.out _ _ _ HB.out hb)
  clear ho hb
  go_wp2_with fail
  go_ret
  exact ⟨rfl, HO2.out, HB2.out⟩
set_option maxHeartbeats 1000000 in
theorem held_piece (s : ByteArray) (A : Option Addr) (n c : Nat) (k0 : Int) (hn : n ≤ 1048576) (h0 : 0 ≤ k0) (h1 : k0 ≤ 1048576) (w : World) (h : Nums w w.heap.size A n (mk k0)) :
    Calls Tryd.prog 13 #[pcV s A n c, .int .i64 k0] w fun e w' => e = .returned (.int .i64 (mk k0 n)) ∧ Below w.heap.size w w' := by
  have HB := Lib.hid (below_box w (.cells #[.string s, .slice A n c] 27))
  have KB := Lib.hid (heap_alloc_new w (.cells #[.string s, .slice A n c] 27))
  have C := Lib.hid fun w h => held_same A n c k0 hn h0 h1 w h
  have HO := Lib.hid ((h.below HB.out (Nat.le_refl _)).more HB.out.size)
  have hk : 0 ≤ mk k0 n := by unfold mk; omega
  clear h
  unfold pcV
  generalize mk k0 n = kn at C hk ⊢
  have hk' : ¬ kn < 0 := by omega
  go_enter Tryd.func13, Tryd.ntmps13
  go_upto_region 1 with fail
  generalize w.alloc _ = w1 at HB KB HO ⊢
  obtain ⟨x0, x1⟩ := Pt.blk2 KB.out
  go_wp2_with fail
  refine (C.out _ HO.out).mono ?_
  rintro e w2 ⟨rfl, hb⟩
  have HB2 := Lib.hid (below_then HB.out hb)
  clear hb
  go_wp2_with fail
  go_ret
  exact ⟨rfl, HB2.out⟩
set_option maxRecDepth 100000 in
set_option maxHeartbeats 8000000 in
theorem core (s : ByteArray) (hs : s.size ≤ 1048576) (w : World) (hV : Ri.Vars w) (hM : Rc.MaxAt w) :
    Calls Tryd.prog 4 #[.string s] w fun e w' => e = .returned (.bool true) ∧ Below w.heap.size w w' := by
  have CS := Lib.hid fun w => Pr.spec_rp s hs w
  have CI := Lib.hid fun w' hb => Prj.impl_rp s hs w' (hV.below hb) (hM.below hb)
  have hz : (s.size : Int) ≤ 1048576 := by omega
  have hb_m : Pr.M s.data.toList ≤ 1048576 := by
    unfold Pr.M
    split
    · have := Pr.N_le s.data.toList
      have h3 : s.data.toList.length = s.size := by simp
      omega
    · omega
  unfold Pr.Post at CS
  unfold Prj.PostI at CI
  generalize Pr.M s.data.toList = m at CS CI hb_m
  generalize Pr.F s.data.toList = d at CS CI
  generalize Pr.NM s.data.toList = z at CS CI
  generalize Pr.B s.data.toList = cd at CS CI
  have ne_cd : (cd != cd) = false := by simp
  have EQ_m := Lib.hid (fun A1 A2 c1 c2 w h1 h2 => Pt.eq_piece z A1 A2 m c1 c2 d hb_m w h1 h2)
  have MK_m := Lib.hid (fun A c B w h => mark_piece z A m c 1 d hb_m (by omega) (by omega) B w h)
  have HE_m := Lib.hid (fun A c w h => held_piece z A m c 1 hb_m (by omega) (by omega) w h)
  have hM_m : 0 ≤ mk 1 m := by unfold mk; omega
  generalize mk 1 m = M_m at MK_m HE_m hM_m
  have hM0 : ¬ M_m < 0 := by omega
  have neM_m : (M_m != M_m) = false := by simp
  clear hV hM hs
  unfold pcV at EQ_m MK_m HE_m
  go_enter Tryd.func4, Tryd.ntmps4
  go_wp2_with fail
  refine (CS.out _).mono ?_
  rintro e w1 ⟨AW, cW, rfl, HW, b1⟩
  have B_1 := Lib.hid b1
  have W_1 := Lib.hid HW.out.nums
  clear HW b1 CS
  have bb := below_box w1 (.cells #[.string z, .slice AW m cW] 27)
  have kb := heap_alloc_new w1 (.cells #[.string z, .slice AW m cW] 27)
  go_upto_region 4 with fail
  generalize hw2 : w1.alloc (.cells #[.string z, .slice AW m cW] 27) = w2 at bb kb ⊢
  have B_2 := Lib.hid (below_then B_1.out bb)
  have W_2 := Lib.hid ((W_1.out.below bb (Nat.le_refl _)).more bb.size)
  have KW_2 := Lib.hid kb
  generalize w1.heap.size = gw at KW_2 ⊢
  clear hw2 bb kb B_1 W_1
  go_wp2_with fail
  refine (CI.out _ B_2.out).mono ?_
  rintro e w3 ⟨AG, cG, rfl, HA0, HG, b3⟩
  have B_3 := Lib.hid (below_then B_2.out b3)
  have W_3 := Lib.hid (W_2.out.below b3 (Nat.le_refl _))
  have KW_3 := Lib.hid (Ge.blk_keep b3 KW_2.out)
  have G_3 := Lib.hid (own0_of HG.out HA0.out)
  have lw : Hid (gw < w2.heap.size) := Lib.hid (lt_of_heap KW_2.out)
  have hs3 := b3.size
  have hs2 := B_2.out.size
  clear HG HA0 b3 B_2 W_2 KW_2
  have bb := below_box w3 (.cells #[.string z, .slice AG m cG] 27)
  have kb := heap_alloc_new w3 (.cells #[.string z, .slice AG m cG] 27)
  go_upto_region 5 with fail
  generalize hw4 : w3.alloc (.cells #[.string z, .slice AG m cG] 27) = w4 at bb kb ⊢
  have B_4 := Lib.hid (below_then B_3.out bb)
  have W_4 := Lib.hid (W_3.out.below bb hs3)
  have KW_4 := Lib.hid (Ge.blk_keep bb KW_3.out)
  have G_4 := Lib.hid (G_3.out.below bb)
  have KG_4 := Lib.hid kb
  have lg : Hid (0 < m → ∀ g, AG = some ⟨g, 0, none⟩ → w3.heap.size ≠ g) := Lib.hid fun hm g hg e => by
    obtain ⟨g', e', _, h2, _⟩ := G_3.out hm
    rw [hg] at e'
    injection e' with e'
    injection e' with e1 e2
    omega
  have lgw : Hid (0 < m → ∀ g, AG = some ⟨g, 0, none⟩ → gw ≠ g) := Lib.hid fun hm g hg e => by
    obtain ⟨g', e', h1, _⟩ := G_3.out hm
    have := lw.out
    rw [hg] at e'
    injection e' with e'
    injection e' with e1 e2
    omega
  have hs4 := bb.size
  generalize w3.heap.size = gg at KG_4 lg hs4 hs3 ⊢
  clear hw4 bb kb B_3 W_3 G_3 KW_3
  obtain ⟨x0, x1⟩ := Pt.blk2 KG_4.out
  obtain ⟨y0, y1⟩ := Pt.blk2 KW_4.out
  go_wp2_with fail
  refine (EQ_m.out _ _ _ _ _ G_4.out.nums (W_4.out.more (by omega))).mono ?_
  rintro e w5 ⟨rfl, b5⟩
  have B_5 := Lib.hid (below_then B_4.out b5)
  have W_5 := Lib.hid (W_4.out.below b5 (by omega))
  have KW_5 := Lib.hid (Ge.blk_keep b5 KW_4.out)
  have KG_5 := Lib.hid (Ge.blk_keep b5 KG_4.out)
  have G_5 := Lib.hid (G_4.out.below b5)
  have hs5 := b5.size
  clear b5 B_4 W_4 G_4 KG_4 KW_4 x0 x1 y0 y1
  obtain ⟨x0, x1⟩ := Pt.blk2 KG_5.out
  go_wp2_with fail
  refine (MK_m.out _ _ w2.heap.size _ G_5.out).mono ?_
  rintro e w6 ⟨rfl, h6, b6⟩
  have B_6 := Lib.hid (B_5.out.trans ((b6.low G_5.out (by omega)).mono hs2))
  have W_6 := Lib.hid (W_5.out.below (b6.low G_5.out (by omega)) (Nat.le_refl _))
  have hs6 := (b6.low G_5.out (by omega)).size
  have KW_6 := Lib.hid (b6.blk (f := d) (B := w2.heap.size) KW_5.out lgw.out)
  have KG_6 := Lib.hid (b6.blk (f := d) (B := w2.heap.size) KG_5.out lg.out)
  have G_6 := Lib.hid h6
  clear b6 B_5 W_5 G_5 KG_5 KW_5 x0 x1
  obtain ⟨x0, x1⟩ := Pt.blk2 KG_6.out
  go_wp2_with fail
  refine (HE_m.out _ _ _ G_6.out.nums).mono ?_
  rintro e w7 ⟨rfl, b7⟩
  have B_7 := Lib.hid (below_then B_6.out b7)
  have W_7 := Lib.hid (W_6.out.below b7 (by omega))
  have KW_7 := Lib.hid (Ge.blk_keep b7 KW_6.out)
  have KG_7 := Lib.hid (Ge.blk_keep b7 KG_6.out)
  have G_7 := Lib.hid (G_6.out.below b7)
  have hs7 := b7.size
  clear b7 B_6 W_6 G_6 KG_6 KW_6 x0 x1
  go_wp2_with fail
  refine (CI.out _ B_7.out).mono ?_
  rintro e w8 ⟨AO, cO, rfl, _, HO, b8⟩
  have B_8 := Lib.hid (below_then B_7.out b8)
  have W_8 := Lib.hid (W_7.out.below b8 (by omega))
  have KW_8 := Lib.hid (Ge.blk_keep b8 KW_7.out)
  have KG_8 := Lib.hid (Ge.blk_keep b8 KG_7.out)
  have G_8 := Lib.hid (G_7.out.below b8)
  have O_8 := Lib.hid HO.out.nums
  have hs8 := b8.size
  clear b8 B_7 W_7 G_7 KG_7 KW_7 HO
  have bb := below_box w8 (.cells #[.string z, .slice AO m cO] 27)
  have kb := heap_alloc_new w8 (.cells #[.string z, .slice AO m cO] 27)
  go_upto_region 16 with fail
  generalize hw9 : w8.alloc (.cells #[.string z, .slice AO m cO] 27) = w9 at bb kb ⊢
  have B_9 := Lib.hid (below_then B_8.out bb)
  have W_9 := Lib.hid (W_8.out.below bb (by omega))
  have KW_9 := Lib.hid (Ge.blk_keep bb KW_8.out)
  have KG_9 := Lib.hid (Ge.blk_keep bb KG_8.out)
  have G_9 := Lib.hid (G_8.out.below bb)
  have O_9 := Lib.hid ((O_8.out.below bb (Nat.le_refl _)).more bb.size)
  have hs9 := bb.size
  generalize w8.heap.size = go at kb hs9 hs8 ⊢
  clear hw9 bb B_8 W_8 G_8 O_8 KG_8 KW_8
  obtain ⟨x0, x1⟩ := Pt.blk2 kb
  obtain ⟨y0, y1⟩ := Pt.blk2 KW_9.out
  clear kb
  go_wp2_with fail
  refine (EQ_m.out _ _ _ _ _ O_9.out (W_9.out.more (by omega))).mono ?_
  rintro e w10 ⟨rfl, b10⟩
  have B_10 := Lib.hid (below_then B_9.out b10)
  have KG_10 := Lib.hid (Ge.blk_keep b10 KG_9.out)
  have G_10 := Lib.hid (G_9.out.below b10)
  clear b10 B_9 W_9 G_9 O_9 KG_9 KW_9 x0 x1 y0 y1
  obtain ⟨x0, x1⟩ := Pt.blk2 KG_10.out
  go_wp2_with fail
  refine (HE_m.out _ _ _ G_10.out.nums).mono ?_
  rintro e w11 ⟨rfl, b11⟩
  have B_11 := Lib.hid (below_then B_10.out b11)
  clear b11 B_10 G_10 KG_10 x0 x1
  go_wp2_with fail
  go_ret
  exact ⟨rfl, B_11.out⟩
theorem law (s : ByteArray) (w : World) (hV : Ri.Vars w) (hM : Rc.MaxAt w) (hm : s.size ≤ maxLen) :
    Calls Tryd.prog 4 #[.string s] w fun e w' => e = .returned (.bool true) ∧ Below w.heap.size w w' := by
  by_cases hs : s.size ≤ 1048576
  · exact core s hs w hV hM
  · have h1 : (1048576 : Int) < (s.size : Int) := by omega
    go_enter Tryd.func4, Tryd.ntmps4
    go_wp2_with fail
    go_ret
    exact ⟨rfl, Below.refl _ _⟩
end Go.Proofs.YtnojnikophpnoaaDoor.Prl
