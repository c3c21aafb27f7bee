/- Both functions JoinFeet: the feet near to the middle. -/
import Derived.Test.YtoincfhhafpekaaFlLib
namespace Go.Proofs.Ytoincfhhafpekaa.Jn
open Go.RowKit Ft Fs Ld Is Fc Cl Ms Md Me Fa Qb Fl

theorem info_foot4 : (Try.prog.info? 25).map (fun i => (i.zero, i.size, i.bytes)) = some (some (.agg #[.int .i64 0, .int .i64 0, .int .i64 0, .int .i64 0]), 4, 32) := by kernel_rfl
/-- The cells of the feet at some places. -/
def fc (F : Nat → Nat → Int) : List Nat → List Value
  | [] => []
  | i :: l => .int .i64 (F i 0) :: .int .i64 (F i 1) :: .int .i64 (F i 2) :: .int .i64 (F i 3) :: fc F l
theorem fc_snoc (F : Nat → Nat → Int) (k : Nat) : ∀ l, fc F (l ++ [k]) = fc F l ++ [.int .i64 (F k 0), .int .i64 (F k 1), .int .i64 (F k 2), .int .i64 (F k 3)]
  | [] => rfl
  | i :: l => by simp [fc, fc_snoc F k l]
theorem fc_get (F : Nat → Nat → Int) : ∀ (l : List Nat) (i j : Nat), i < l.length → j < 4 → (fc F l)[i * 4 + j]? = some (.int .i64 (F (l.getD i 0) j))
  | [], _, _, h, _ => by simp at h
  | a :: l, 0, j, _, hj => by
    obtain rfl | rfl | rfl | rfl : j = 0 ∨ j = 1 ∨ j = 2 ∨ j = 3 := by omega
    all_goals rfl
  | a :: l, i + 1, j, h, hj => by
    have := fc_get F l i j (by simpa using h) hj
    rw [show (i + 1) * 4 + j = (i * 4 + j) + 4 by omega]
    simpa [fc] using this
theorem cells_new4 (w : World) (a b c d : Value) (t : TypeId) : ∀ j u, [a, b, c, d][j]? = some u → (w.alloc (.cells #[a, b, c, d] t)).cell? ((⟨w.heap.size, 0, none⟩ : Addr).add j) = some u := by
  intro j u hu
  rw [Addr.add_lit, Nat.zero_add, cell_of_row _ _ _ _ _ (0, 0) (heap_alloc_new _ _)]
  simpa using hu
/-- A row of such cells reads as a list of feet. -/
theorem ints_of_feet {F : Nat → Nat → Int} {l : List Nat} {w : World} {B : Nat} {v : Value} (h : w.ownsRow B 25 4 v l.length (fc F l)) (hn : l.length ≤ 1048576) (hwf : ∀ i, i < l.length → ∀ j, j < 4 → (Lit.int .i64 (F (l.getD i 0) j)).wf = true) :
    ∃ A cap, v = .slice A l.length cap ∧ Ints w w.heap.size 4 A l.length (fun i => F (l.getD i 0)) := by
  rcases h.2 with ⟨rfl, h0⟩ | ⟨g, cap, cur, rfl, hbg, hh, hcap, hmax, hsz, htk⟩
  · exact ⟨none, 0, by rw [h0], by unfold maxLen; omega, hwf, fun hp => by omega⟩
  · refine ⟨_, cap, rfl, by unfold maxLen; omega, hwf, fun hp => ⟨g, 0, rfl, lt_of_heap hh, fun i hi j hj => ?_⟩⟩
    rw [Nat.zero_add]
    refine (h.cellAt (i * 4 + j) (by omega)).trans ?_
    exact fc_get F l i j hi hj
/-- Foot i is near to the middle. -/
noncomputable def qf (n : Nat) (F : Nat → Nat → Int) (most : Int) (i : Nat) : Bool := !pf n F most i
/-- The places of the feet that are near. -/
noncomputable def nl (n : Nat) (F : Nat → Nat → Int) (most : Int) : List Nat := fl (qf n F most) n
/-- The feet that are near. -/
noncomputable def nF (n : Nat) (F : Nat → Nat → Int) (most : Int) (i : Nat) : Nat → Int := F ((nl n F most).getD i 0)
/-- What JoinFeet answers where its arguments are valid: four measures, and a code. -/
noncomputable def jm (n : Nat) (F : Nat → Nat → Int) (most : Int) (j : Nat) : Int := if (nl n F most).length = 0 then 0 else md (nl n F most).length (nF n F most) j
noncomputable def jc (n : Nat) (F : Nat → Nat → Int) (most : Int) : Int := if (nl n F most).length = 0 then 9 else 0
theorem okay_wf {n : Nat} {F : Nat → Nat → Int} {A : Option Addr} {w : World} {B : Nat} (hA : Ints w B 4 A n F) {most : Int} : ∀ i, i < (nl n F most).length → ∀ j, j < 4 → (Lit.int .i64 (F ((nl n F most).getD i 0) j)).wf = true := fun _ hi j hj =>
  hA.2.1 _ (fl_lt hi) j hj
/-- Four measures and a code. -/
def FootAt (m : Nat → Int) (c : Int) (w : World) (e : Ending) (w' : World) : Prop := e = .returned (.tuple #[.agg #[.int .i64 (m 0), .int .i64 (m 1), .int .i64 (m 2), .int .i64 (m 3)], .int .i64 c]) ∧ Below w.heap.size w w'

set_option maxRecDepth 100000 in
theorem spec_yes (A : Option Addr) (n c : Nat) (F : Nat → Nat → Int) (most : Int) (hn : n ≤ 1048576) (hc : codeOf n F most = 0) (h0 : 0 < n) (ho : Okay n F) (w : World) (hA : Ints w w.heap.size 4 A n F) :
    Calls Try.prog 27 #[.slice A n c, .int .i64 most] w (FootAt (jm n F most) (jc n F most) w) := by
  obtain ⟨i0, hi0, hz0, hz1, hz2⟩ := info_parts info_foot4
  have HI := Lib.hid (And.intro hi0 (And.intro hz0 (And.intro hz1 hz2)))
  clear hi0 hz0 hz1 hz2
  have HA := Lib.hid hA
  have HO := Lib.hid ho
  have C := Lib.hid (fun w h => spec_code A n c F most hn w h)
  rw [hc] at C
  have HW := Lib.hid (okay_wf hA (most := most))
  clear hA ho hc
  have HP : Hid (∀ i, qf n F most i = !(farB (F i) (md n F) most)) := Lib.hid fun _ => rfl
  have HN : Hid (nl n F most = fl (qf n F most) n) := Lib.hid rfl
  have HJ : Hid (∀ j, jm n F most j = if (nl n F most).length = 0 then 0 else md (nl n F most).length (nF n F most) j) := Lib.hid fun _ => rfl
  have HK : Hid (jc n F most = if (nl n F most).length = 0 then 9 else 0) := Lib.hid rfl
  generalize qf n F most = p at HP HN
  generalize jm n F most = jmm at HJ ⊢
  generalize jc n F most = jcc at HK ⊢
  go_enter Try.func27, Try.ntmps27
  go_wp2_with fail
  refine (C.out _ ((HA.out.below (below_box _ _) (Nat.le_refl _)).more (by simp))).mono ?_
  rintro e w1 ⟨rfl, b1⟩
  have HB1 := Lib.hid (below_then (below_box _ _) b1)
  have KZ1 := Lib.hid (blk_keep b1 (heap_alloc_new _ _))
  clear b1 C
  go_wp2_with fail
  go_loopw [7, 8] (fun o i wr => ∃ (k : Nat) (v : Value), k ≤ n ∧ v = o ∧ i = .int .i64 k ∧ Below w1.heap.size w1 wr ∧ Hid (wr.ownsRow w1.heap.size 25 4 v (fl p k).length (fc F (fl p k)))) (fun _ i _ => n - (intOf i).toNat)
  case atStart => exact ⟨0, _, Nat.zero_le _, rfl, rfl, below_box _ _, Lib.hid (World.ownsRow_made w1 #[] 0 (Nat.le_refl _) (by simp [maxLen]) rfl)⟩
  case round =>
    obtain ⟨k, v, hk, rfl, rfl, hbel, hown⟩ := hrel
    have HB := Lib.hid hbel
    have HAk := Lib.hid ((HA.out.below (below_then HB1.out hbel) (Nat.le_refl _)).more (below_then HB1.out hbel).size)
    clear hbel
    by_cases hlt : k < n
    · have CM := Lib.hid (fun p : Beyond wr => spec_mid A n c F hn h0 p.to ((HAk.out.below p.h (Nat.le_refl _)).more p.h.size))
      have CF := Lib.hid (fun w => spec_far (F k) (md n F) most (okay_mild HO.out hlt) (md_mild HO.out h0) w)
      have HPk := Lib.hid (HP.out k)
      generalize farB (F k) (md n F) most = r at CF HPk
      obtain ⟨b, off, rfl, hb, hc⟩ := HAk.out.2.2 (by omega)
      obtain ⟨x0, x1, x2, x3⟩ := Ints.cells4 hc hlt
      have u0 := x0
      have u1 := x1
      have u2 := x2
      have u3 := x3
      have x0 := bey_cell x0
      have x1 := bey_cell x1
      have x2 := bey_cell x2
      have x3 := bey_cell x3
      have e0 : (0 : Int) ≤ (k : Int) := Int.natCast_nonneg _
      have e1 : (k : Int) < (n : Int) := by omega
      clear hc hk
      go_wp2_with fail
      refine wp_region_below (by kernel_rfl) (by kernel_rfl) ?_
      repeat (quiet_step ((first | (go_at_call 61; exact bey_of _ (CM.out _)) | (go_at_call 64; exact bey_of _ (CF.out _)))))
      refine wpQuiet_nil ?_
      rintro _ ⟨pq, rfl⟩
      have HQ := Lib.hid (HB.out.trans (pq.h.mono HB.out.size))
      have HO2 := Lib.hid (row_below hown.out pq.h)
      have y0 := x0 pq
      have y1 := x1 pq
      have y2 := x2 pq
      have y3 := x3 pq
      generalize pq.to = wq at HQ HO2 y0 y1 y2 y3 ⊢
      clear x0 x1 x2 x3 u0 u1 u2 u3
      cases r
      · have hz := HQ.out.size
        have hp : p k = true := HPk.out
        have hle := fl_le p k
        go_wp2_with (at_builtin; refine wpList_append_own _ rfl _ _ 28 rfl w1.heap.size 25 i0 _ 4 32 Try.underlying28 HI.out.1 HI.out.2.1 HI.out.2.2.1 HI.out.2.2.2 rfl (by decide) _ _ _ rfl (HO2.out.alloc _) ⟨wq.heap.size, 0, none⟩ 1 1 [.int .i64 (F k 0), .int .i64 (F k 1), .int .i64 (F k 2), .int .i64 (F k 3)] rfl rfl ?c1 ?c2 ?c3 ?c4 ?c5 ?_)
        case c1 => exact cells_new4 _ _ _ _ _ _
        case c2 => simp [Value.oneCell']
        case c3 => unfold maxLen; omega
        case c4 => omega
        case c5 => first | omega | (simp <;> omega)
        intro v' w4 hown4 hgrow _
        have HQ4 := Lib.hid ((HQ.out.alloc hz _).grown hgrow (by simp; omega) fun g hg => (HO2.out.lt g hg).1)
        have HO4 : Hid (w4.ownsRow w1.heap.size 25 4 v' (fl p (k + 1)).length (fc F (fl p (k + 1)))) := Lib.hid (by rw [fl_yes hp, fc_snoc, List.length_append]; exact hown4)
        clear hown4 hgrow y0 y1 y2 y3
        go_wp2_with fail
        go_roundw
        case rel => exact ⟨k + 1, _, by omega, rfl, by go_num, HQ4.out, HO4⟩
        case measure => simp [intOf]; omega
      · have hp : p k = false := HPk.out
        have HO3 : Hid (wq.ownsRow w1.heap.size 25 4 v (fl p (k + 1)).length (fc F (fl p (k + 1)))) := Lib.hid (by rw [fl_no hp]; exact HO2.out)
        clear y0 y1 y2 y3
        go_wp2_with fail
        go_roundw
        case rel => exact ⟨k + 1, _, by omega, rfl, by go_num, HQ.out, HO3⟩
        case measure => simp [intOf]; omega
    · obtain rfl : k = n := by omega
      rw [← HN.out] at hown
      have hle : (nl k F most).length ≤ k := fl_le _ _
      obtain ⟨A', cap', rfl, hI⟩ := ints_of_feet hown.out (by omega) HW.out
      have HI' := Lib.hid hI
      have KZ5 := Lib.hid (blk_keep HB.out KZ1.out)
      have HB5 := Lib.hid (below_then HB1.out HB.out)
      have CM := Lib.hid (fun h0 => spec_mid A' (nl k F most).length cap' (fun i => F ((nl k F most).getD i 0)) (by omega) h0 wr hI)
      have HM : Hid (∀ j, md (nl k F most).length (fun i => F ((nl k F most).getD i 0)) j = md (nl k F most).length (nF k F most) j) := Lib.hid fun _ => rfl
      clear hI hown HN HI'
      generalize md (nl k F most).length (nF k F most) = mm at HJ HM
      generalize md (nl k F most).length (fun i => F ((nl k F most).getD i 0)) = mm' at CM HM
      obtain rfl : mm' = mm := funext HM.out
      generalize (nl k F most).length = ln at *
      by_cases hz : ln = 0
      · subst hz
        have HE : Hid (Ending.returned (.tuple #[.agg #[.int .i64 0, .int .i64 0, .int .i64 0, .int .i64 0], .int .i64 9]) = Ending.returned (.tuple #[.agg #[.int .i64 (jmm 0), .int .i64 (jmm 1), .int .i64 (jmm 2), .int .i64 (jmm 3)], .int .i64 jcc])) := Lib.hid (by rw [HJ.out, HJ.out, HJ.out, HJ.out, HK.out]; rfl)
        obtain ⟨z0, z1, z2, z3⟩ := blk4 KZ5.out
        have hfr := blk_free KZ5.out
        go_wp2_with fail
        exact bodyPost_ret (v := .tuple #[.agg #[.int .i64 0, .int .i64 0, .int .i64 0, .int .i64 0], .int .i64 9]) (by simp [results, Try.results27, go_sem, z0, z1, z2, z3]) rfl
          ⟨HE.out, (((HB5.out.setCell (by simp) _).setCell (by simp) _).setCell (by simp) _).setCell (by simp) _⟩
      · have hp : 0 < ln := by omega
        have hne : ((ln : Int) == 0) = false := by simp; omega
        have HE : Hid (Ending.returned (.tuple #[.agg #[.int .i64 (mm' 0), .int .i64 (mm' 1), .int .i64 (mm' 2), .int .i64 (mm' 3)], .int .i64 0]) = Ending.returned (.tuple #[.agg #[.int .i64 (jmm 0), .int .i64 (jmm 1), .int .i64 (jmm 2), .int .i64 (jmm 3)], .int .i64 jcc])) := Lib.hid (by rw [HJ.out, HJ.out, HJ.out, HJ.out, HK.out, if_neg hz, if_neg hz, if_neg hz, if_neg hz, if_neg hz])
        clear hz
        go_wp2_with fail
        refine (CM.out hp).mono ?_
        rintro e w6 ⟨rfl, b6⟩
        have KZ6 := Lib.hid (blk_keep b6 KZ5.out)
        have HB6 := Lib.hid (below_then HB5.out b6)
        obtain ⟨z0, z1, z2, z3⟩ := blk4 KZ6.out
        have hfr := blk_free KZ6.out
        clear b6
        go_wp2_with fail
        exact bodyPost_ret (v := .tuple #[.agg #[.int .i64 (mm' 0), .int .i64 (mm' 1), .int .i64 (mm' 2), .int .i64 (mm' 3)], .int .i64 0]) (by simp [results, Try.results27, go_sem, z0, z1, z2, z3]) rfl
          ⟨HE.out, (((HB6.out.setCell (by simp) _).setCell (by simp) _).setCell (by simp) _).setCell (by simp) _⟩
end Go.Proofs.Ytoincfhhafpekaa.Jn
