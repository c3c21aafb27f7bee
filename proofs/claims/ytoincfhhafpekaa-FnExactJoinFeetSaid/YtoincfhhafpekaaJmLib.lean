/- Both functions JoinFeet: the program's, and both where the arguments are not valid. -/
import Derived.Test.YtoincfhhafpekaaJnLib
namespace Go.Proofs.Ytoincfhhafpekaa.Jn
open Go.RowKit Ft Fs Ld Is Fc Cl Ms Md Me Fa Qb Fl

set_option maxRecDepth 100000 in
theorem impl_yes (A : Option Addr) (n c : Nat) (F : Nat → Nat → Int) (most : Int) (hn : n ≤ 1048576) (hc : codeOf n F most = 0) (h0 : 0 < n) (ho : Okay n F) (w : World) (hA : Ints w w.heap.size 4 A n F) :
    Calls Try.prog 28 #[.slice A n c, .int .i64 most] w (FootAt (jm n F most) (jc n F most) w) := by
  obtain ⟨i0, hi0, hz0, hz1, hz2⟩ := info_parts info_foot4
  have HI := Lib.hid (And.intro hi0 (And.intro hz0 (And.intro hz1 hz2)))
  clear hi0 hz0 hz1 hz2
  have HA := Lib.hid hA
  have HO := Lib.hid ho
  have C := Lib.hid (fun w h => impl_code A n c F most hn w h)
  rw [hc] at C
  have HW := Lib.hid (okay_wf hA (most := most))
  clear hA ho hc
  have HP : Hid (∀ i, qf n F most i = !(farB (F i) (md n F) most)) := Lib.hid fun _ => rfl
  have HN : Hid (nl n F most = fl (qf n F most) n) := Lib.hid rfl
  have HJ : Hid (∀ j, jm n F most j = if (nl n F most).length = 0 then 0 else md (nl n F most).length (nF n F most) j) := Lib.hid fun _ => rfl
  have HK : Hid (jc n F most = if (nl n F most).length = 0 then 9 else 0) := Lib.hid rfl
  generalize qf n F most = p at HP HN
  generalize jm n F most = jmm at HJ ⊢
  generalize jc n F most = jcc at HK ⊢
  go_enter Try.func28, Try.ntmps28
  go_wp2_with fail
  refine (C.out _ ((HA.out.below (below_box _ _) (Nat.le_refl _)).more (by simp))).mono ?_
  rintro e w1 ⟨rfl, b1⟩
  have HB1 := Lib.hid (below_then (below_box _ _) b1)
  have KZ1 := Lib.hid (blk_keep b1 (heap_alloc_new _ _))
  clear b1 C
  go_wp2_with fail
  refine (impl_mid A n c F hn h0 _ ((HA.out.below HB1.out (Nat.le_refl _)).more HB1.out.size)).mono ?_
  rintro e w2 ⟨rfl, b2⟩
  have HB2 := Lib.hid (below_then HB1.out b2)
  have KZ2 := Lib.hid (blk_keep b2 KZ1.out)
  clear b2 HB1 KZ1
  go_wp2_with fail
  have KC := Lib.hid (heap_alloc_new w2 (.cells #[.int .i64 (md n F 0), .int .i64 (md n F 1), .int .i64 (md n F 2), .int .i64 (md n F 3)] 25))
  have HB1 := Lib.hid (HB2.out.alloc HB2.out.size (.cells #[.int .i64 (md n F 0), .int .i64 (md n F 1), .int .i64 (md n F 2), .int .i64 (md n F 3)] 25))
  have KZ1 := Lib.hid (blk_keep (below_box w2 (.cells #[.int .i64 (md n F 0), .int .i64 (md n F 1), .int .i64 (md n F 2), .int .i64 (md n F 3)] 25)) KZ2.out)
  generalize w2.alloc (.cells #[.int .i64 (md n F 0), .int .i64 (md n F 1), .int .i64 (md n F 2), .int .i64 (md n F 3)] 25) = w1 at KC HB1 KZ1 ⊢
  go_loopw [8, 10, 22] (fun o _ i wr => ∃ (k : Nat) (v : Value), k ≤ n ∧ v = o ∧ i = .int .i64 k ∧ Below w1.heap.size w1 wr ∧ Hid (wr.ownsRow w1.heap.size 25 4 v (fl p k).length (fc F (fl p k)))) (fun _ _ i _ => n - (intOf i).toNat)
  case atStart => exact ⟨0, _, Nat.zero_le _, rfl, rfl, Below.refl _ _, Lib.hid (World.ownsRow_nil _ _ _ _)⟩
  case round =>
    obtain ⟨k, v, hk, rfl, rfl, hbel, hown⟩ := hrel
    have HB := Lib.hid hbel
    have HAk := Lib.hid ((HA.out.below (below_then HB1.out hbel) (Nat.le_refl _)).more (below_then HB1.out hbel).size)
    have KCk := Lib.hid (blk_keep hbel KC.out)
    clear hbel
    by_cases hlt : k < n
    · have CF := Lib.hid (fun w => impl_far (F k) (md n F) most (okay_mild HO.out hlt) (md_mild HO.out h0) w)
      have HPk := Lib.hid (HP.out k)
      generalize farB (F k) (md n F) most = r at CF HPk
      obtain ⟨b, off, rfl, hb, hc⟩ := HAk.out.2.2 (by omega)
      obtain ⟨x0, x1, x2, x3⟩ := Ints.cells4 hc hlt
      obtain ⟨y0, y1, y2, y3⟩ := blk4 KCk.out
      have lc := lt_of_heap KCk.out
      have hz0 := HB.out.size
      clear hc hk
      go_wp2_with fail
      refine (CF.out _).mono ?_
      rintro e wq ⟨rfl, bq⟩
      have HQ := Lib.hid (HB.out.trans ((below_then (below_box _ _) bq).mono HB.out.size))
      have HO2 := Lib.hid (row_below hown.out (below_then (below_box _ _) bq))
      have KF := Lib.hid (blk_keep bq (heap_alloc_new _ _))
      clear x0 x1 x2 x3 y0 y1 y2 y3 bq
      obtain ⟨y0, y1, y2, y3⟩ := blk4 KF.out
      cases r
      · have hz := HQ.out.size
        have hp : p k = true := HPk.out
        have hle := fl_le p k
        go_wp2_with (at_builtin; refine wpList_append_own _ rfl _ _ 28 rfl w1.heap.size 25 i0 _ 4 32 Try.underlying28 HI.out.1 HI.out.2.1 HI.out.2.2.1 HI.out.2.2.2 rfl (by decide) _ _ _ rfl (HO2.out.alloc _) ⟨wq.heap.size, 0, none⟩ 1 1 [.int .i64 (F k 0), .int .i64 (F k 1), .int .i64 (F k 2), .int .i64 (F k 3)] rfl rfl ?c1 ?c2 ?c3 ?c4 ?c5 ?_)
        case c1 => exact cells_new4 _ _ _ _ _ _
        case c2 => simp [Value.oneCell']
        case c3 => unfold maxLen; omega
        case c4 => omega
        case c5 => first | omega | (simp <;> omega)
        intro v' w4 hown4 hgrow _
        have HQ4 := Lib.hid ((HQ.out.alloc hz _).grown hgrow (by simp; omega) fun g hg => (HO2.out.lt g hg).1)
        have HO4 : Hid (w4.ownsRow w1.heap.size 25 4 v' (fl p (k + 1)).length (fc F (fl p (k + 1)))) := Lib.hid (by rw [fl_yes hp, fc_snoc, List.length_append]; exact hown4)
        clear hown4 hgrow y0 y1 y2 y3 KF
        go_wp2_with fail
        go_roundw
        case rel => exact ⟨k + 1, _, by omega, rfl, by go_num, HQ4.out, HO4⟩
        case measure => simp [intOf]; omega
      · have hp : p k = false := HPk.out
        have HO3 : Hid (wq.ownsRow w1.heap.size 25 4 v (fl p (k + 1)).length (fc F (fl p (k + 1)))) := Lib.hid (by rw [fl_no hp]; exact HO2.out)
        clear y0 y1 y2 y3
        go_wp2_with fail
        go_roundw
        case rel => exact ⟨k + 1, _, by omega, rfl, by go_num, HQ.out, HO3⟩
        case measure => simp [intOf]; omega
    · obtain rfl : k = n := by omega
      rw [← HN.out] at hown
      have hle : (nl k F most).length ≤ k := fl_le _ _
      obtain ⟨A', cap', rfl, hI⟩ := ints_of_feet hown.out (by omega) HW.out
      have HI' := Lib.hid hI
      have KZ5 := Lib.hid (blk_keep HB.out KZ1.out)
      have HB5 := Lib.hid (below_then HB1.out HB.out)
      have CM := Lib.hid (fun h0 => impl_mid A' (nl k F most).length cap' (fun i => F ((nl k F most).getD i 0)) (by omega) h0 wr hI)
      have HM : Hid (∀ j, md (nl k F most).length (fun i => F ((nl k F most).getD i 0)) j = md (nl k F most).length (nF k F most) j) := Lib.hid fun _ => rfl
      clear hI hown HN HI'
      generalize md (nl k F most).length (nF k F most) = mm at HJ HM
      generalize md (nl k F most).length (fun i => F ((nl k F most).getD i 0)) = mm' at CM HM
      obtain rfl : mm' = mm := funext HM.out
      generalize (nl k F most).length = ln at *
      by_cases hz : ln = 0
      · subst hz
        have HE : Hid (Ending.returned (.tuple #[.agg #[.int .i64 0, .int .i64 0, .int .i64 0, .int .i64 0], .int .i64 9]) = Ending.returned (.tuple #[.agg #[.int .i64 (jmm 0), .int .i64 (jmm 1), .int .i64 (jmm 2), .int .i64 (jmm 3)], .int .i64 jcc])) := Lib.hid (by rw [HJ.out, HJ.out, HJ.out, HJ.out, HK.out]; rfl)
        obtain ⟨z0, z1, z2, z3⟩ := blk4 KZ5.out
        have hfr := blk_free KZ5.out
        go_wp2_with fail
        exact bodyPost_ret (v := .tuple #[.agg #[.int .i64 0, .int .i64 0, .int .i64 0, .int .i64 0], .int .i64 9]) (by simp [results, Try.results28, go_sem, z0, z1, z2, z3]) rfl
          ⟨HE.out, (((HB5.out.setCell (by simp) _).setCell (by simp) _).setCell (by simp) _).setCell (by simp) _⟩
      · have hp : 0 < ln := by omega
        have hne : ((ln : Int) == 0) = false := by simp; omega
        have HE : Hid (Ending.returned (.tuple #[.agg #[.int .i64 (mm' 0), .int .i64 (mm' 1), .int .i64 (mm' 2), .int .i64 (mm' 3)], .int .i64 0]) = Ending.returned (.tuple #[.agg #[.int .i64 (jmm 0), .int .i64 (jmm 1), .int .i64 (jmm 2), .int .i64 (jmm 3)], .int .i64 jcc])) := Lib.hid (by rw [HJ.out, HJ.out, HJ.out, HJ.out, HK.out, if_neg hz, if_neg hz, if_neg hz, if_neg hz, if_neg hz])
        clear hz
        go_wp2_with fail
        refine (CM.out hp).mono ?_
        rintro e w6 ⟨rfl, b6⟩
        have KZ6 := Lib.hid (blk_keep b6 KZ5.out)
        have HB6 := Lib.hid (below_then HB5.out b6)
        obtain ⟨z0, z1, z2, z3⟩ := blk4 KZ6.out
        have hfr := blk_free KZ6.out
        clear b6
        go_wp2_with fail
        exact bodyPost_ret (v := .tuple #[.agg #[.int .i64 (mm' 0), .int .i64 (mm' 1), .int .i64 (mm' 2), .int .i64 (mm' 3)], .int .i64 0]) (by simp [results, Try.results28, go_sem, z0, z1, z2, z3]) rfl
          ⟨HE.out, (((HB6.out.setCell (by simp) _).setCell (by simp) _).setCell (by simp) _).setCell (by simp) _⟩

theorem spec_no (A : Option Addr) (n c : Nat) (F : Nat → Nat → Int) (most : Int) (hn : n ≤ 1048576) (hc : (codeOf n F most != 0) = true) (w : World) (hA : Ints w w.heap.size 4 A n F) :
    Calls Try.prog 27 #[.slice A n c, .int .i64 most] w (FootAt (fun _ => 0) (codeOf n F most) w) := by
  have HA := Lib.hid hA
  have C := Lib.hid (fun w h => spec_code A n c F most hn w h)
  clear hA
  generalize codeOf n F most = cd at hc C ⊢
  go_enter Try.func27, Try.ntmps27
  go_wp2_with fail
  refine (C.out _ ((HA.out.below (below_box _ _) (Nat.le_refl _)).more (by simp))).mono ?_
  rintro e w1 ⟨rfl, b1⟩
  have HB1 := Lib.hid (below_then (below_box _ _) b1)
  have KZ1 := Lib.hid (blk_keep b1 (heap_alloc_new _ _))
  obtain ⟨z0, z1, z2, z3⟩ := blk4 KZ1.out
  have hfr := blk_free KZ1.out
  clear b1
  go_wp2_with fail
  exact bodyPost_ret (v := .tuple #[.agg #[.int .i64 0, .int .i64 0, .int .i64 0, .int .i64 0], .int .i64 cd]) (by simp [results, Try.results27, go_sem, z0, z1, z2, z3]) rfl
    ⟨rfl, (((HB1.out.setCell (by simp) _).setCell (by simp) _).setCell (by simp) _).setCell (by simp) _⟩

theorem impl_no (A : Option Addr) (n c : Nat) (F : Nat → Nat → Int) (most : Int) (hn : n ≤ 1048576) (hc : (codeOf n F most != 0) = true) (w : World) (hA : Ints w w.heap.size 4 A n F) :
    Calls Try.prog 28 #[.slice A n c, .int .i64 most] w (FootAt (fun _ => 0) (codeOf n F most) w) := by
  have HA := Lib.hid hA
  have C := Lib.hid (fun w h => impl_code A n c F most hn w h)
  clear hA
  generalize codeOf n F most = cd at hc C ⊢
  go_enter Try.func28, Try.ntmps28
  go_wp2_with fail
  refine (C.out _ ((HA.out.below (below_box _ _) (Nat.le_refl _)).more (by simp))).mono ?_
  rintro e w1 ⟨rfl, b1⟩
  have HB1 := Lib.hid (below_then (below_box _ _) b1)
  have KZ1 := Lib.hid (blk_keep b1 (heap_alloc_new _ _))
  obtain ⟨z0, z1, z2, z3⟩ := blk4 KZ1.out
  have hfr := blk_free KZ1.out
  clear b1
  go_wp2_with fail
  exact bodyPost_ret (v := .tuple #[.agg #[.int .i64 0, .int .i64 0, .int .i64 0, .int .i64 0], .int .i64 cd]) (by simp [results, Try.results28, go_sem, z0, z1, z2, z3]) rfl
    ⟨rfl, (((HB1.out.setCell (by simp) _).setCell (by simp) _).setCell (by simp) _).setCell (by simp) _⟩
end Go.Proofs.Ytoincfhhafpekaa.Jn
