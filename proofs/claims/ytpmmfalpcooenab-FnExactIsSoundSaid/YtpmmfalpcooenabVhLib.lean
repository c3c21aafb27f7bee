/- OpeningsOf: the program's openings. -/
import Derived.Test.YtpmmfalpcooenabVgLib
namespace Go.Proofs.Ytpmmfalpcooenab.Vh
set_option linter.unusedVariables false
open Go.RowKit Go.Maps Ft Is Ge Qb Pt Pv Za Mm Zb Zc Zd Vq Sdq Sdu Uf Ug Uc Ud Uq Ux Vo Vc Vd Vf Vg

theorem zeroB (w : World) : (zeroValue 4).run Try.prog w = .ok (.bool false) w := by kernel_rfl
def MB (g : Lit → Option Value) (C : Nat → Bool) : Prop := (∀ z, z < 80 → got (g (keyN z)) (.bool false) = .bool (C z)) ∧ ∀ q, (g q).isSome = true → ∃ z, z < 80 ∧ q = keyN z
theorem MB.ct {g : Lit → Option Value} {C : Nat → Bool} (h : MB g C) {x : Nat × Nat} (hx : pc x < 80) : MB (upd g (keyN (pc x)) (.bool true)) (Vg.ct C x) :=
  ⟨fun z hz => by
    by_cases e : z = pc x
    · subst e
      rw [upd_same]
      simp [got, Vg.ct]
    · rw [upd_other _ _ (fun q => e (injE _ _ hz hx q)), h.1 z hz]
      simp [Vg.ct, e], fun q hs => by
    by_cases e : q = keyN (pc x)
    · exact ⟨_, hx, e⟩
    · rw [upd_other _ _ e] at hs; exact h.2 q hs⟩
set_option maxRecDepth 100000 in
set_option maxHeartbeats 4000000 in
theorem openings (A : Option Addr) (n c : Nat) (N : Nat → ByteArray) (ms : Nat → Nat) (ds : Nat → Nat → Int) (Y : Option Addr) (k sc : Nat) (S : Nat → Int) (o : Int) (hz : Small n N ms k) (hP : PatP n N ms ds k S o)
    (B : Nat) (W : World) (ea : Option Addr) (el ec bm : Nat) (P : Nat × Nat → Nat) (g : Lit → Option Value) (hR : PatR W A n N ms ds Y k S) (hS : Surf B n ms ds (plc ms n) (plc ms n) (mate S k) (.slice ea el ec) bm P g W) :
    Calls Try.prog 105 #[sfV A n c Y k sc o (.slice ea el ec) bm] W (OneAt (st ms ds S k (ol ms n S k (sumN ms n))).2.length (opD ms ds S k n) W) := by
  obtain ⟨p1, p2, p3, p4⟩ := pat_in hP
  have hG := good_of hP
  have p0 : 1 ≤ n := by have := hP.2.1.1; unfold inB at this; simp at this; omega
  have hm8 : ∀ i, i < n → ms i ≤ 8 := fun i hi => (p2 i hi).2
  have hE8 := sum_le hm8
  have hE1 : 0 < sumN ms n := by have := le_sum (f := ms) (show 0 < n by omega); have := (p2 0 (by omega)).1; omega
  have HS := Lib.hid hS
  obtain ⟨i0, hi0, hz0, hz1, hz2⟩ := info_parts info_int
  have HI := Lib.hid (And.intro hi0 (And.intro hz0 (And.intro hz1 hz2)))
  have HB := Lib.hid (below_box W (suC (.slice A n c) (.slice Y k sc) (.int .i64 o) (.slice ea el ec) (.map (some bm))))
  have KB := Lib.hid (heap_alloc_new W (suC (.slice A n c) (.slice Y k sc) (.int .i64 o) (.slice ea el ec) (.map (some bm))))
  have HEG : Hid (∀ t, t < sumN ms n → eg ms n t ∈ plc ms n) := Lib.hid fun t ht => eg_mem ht
  have HPC : Hid (∀ x, x ∈ plc ms n → pc x < 80 ∧ x.2 < 8 ∧ x.1 < n ∧ x.2 < ms x.1) := Lib.hid fun x hx => by
    obtain ⟨h1, h2⟩ := mem_plc.1 hx
    have := hm8 _ h1
    exact ⟨by unfold pc; omega, by omega, h1, h2⟩
  have HOS : Hid (∀ t, mate S k (eg ms n t) = none → st ms ds S k (ol ms n S k (t + 1)) = stp ms ds S k (st ms ds S k (ol ms n S k t)) (eg ms n t)) := Lib.hid fun t ht => by
    rw [ol, if_pos (by unfold opB; rw [ht]; rfl), st_snoc]
  have HOC : Hid (∀ t y, mate S k (eg ms n t) = some y → st ms ds S k (ol ms n S k (t + 1)) = st ms ds S k (ol ms n S k t)) := Lib.hid fun t y ht => by
    rw [ol, if_neg (by unfold opB; rw [ht]; simp)]
  have HO0 : Hid (st ms ds S k (ol ms n S k 0) = (fun _ => false, [])) := Lib.hid rfl
  have HLN : Hid (∀ t, (st ms ds S k (ol ms n S k t)).2.length ≤ t) := Lib.hid fun t => by
    have h1 := st_len ms ds S k (ol ms n S k t)
    have h2 := ol_len ms n S k t
    have h3 := cc_le (opB ms n S k) t
    omega
  have HRI : Hid (∀ C x, x ∈ plc ms n → mate S k x = none → ∃ f s C', f ≤ 80 ∧ Run ms ds S k f C x s C') := Lib.hid fun C x hx ho => by
    obtain ⟨f, s, C', hf, r⟩ := run_is hG ds _ C x rfl hx ho
    have := un_le ms n C
    exact ⟨f, s, C', by omega, r⟩
  have HD : Hid (∀ x : Nat × Nat, x ∈ plc ms n → 0 ≤ ds x.1 x.2 ∧ ds x.1 x.2 ≤ 10000) := Lib.hid fun x hx => by
    obtain ⟨h1, h2⟩ := mem_plc.1 hx
    have := p3 _ _ h1 h2
    omega
  have HRS : Hid (∀ f C x s C', x ∈ plc ms n → mate S k x = none → Run ms ds S k f C x s C' → 0 ≤ s ∧ s ≤ 10000 * (f : Int)) := Lib.hid fun f C x s C' hx ho h => run_s hG HD.out hx ho h
  have CB := Lib.hid (fun (w' : World) (hb : Below W.heap.size W w') x hx ho => behind hG (hS.below hb) (x := x) hx ho)
  have HFM := Lib.hid (fun x hx ho => Good.fol_mem hG (x := x) hx ho)
  have HQ : Hid (∀ w' v B', w'.ownsRow B' 2 1 v (st ms ds S k (ol ms n S k (sumN ms n))).2.length ((st ms ds S k (ol ms n S k (sumN ms n))).2.map (Value.int .i64)) → W.heap.size ≤ B' → Below W.heap.size W w' → OneAt (st ms ds S k (ol ms n S k (sumN ms n))).2.length (opD ms ds S k n) W (.returned v) w') := Lib.hid fun w' v B' h1 h2 h3 => by
    rw [← upto_list] at h1
    exact one_of h1 h2 h3
  have hrow := hS.row
  rw [plc_len] at hrow
  obtain ⟨gr, ecap, hsl, hgr, hgl⟩ := hrow.form hE1
  injection hsl with hea hel hec
  have HRC : Hid (∀ t, t < sumN ms n → W.cell? ⟨gr, t, none⟩ = some (ptr (P (eg ms n t)))) := Lib.hid fun t ht => (by
    subst hea hel hec
    have := hrow.cellAt t (by omega)
    rw [this]
    unfold eg
    rw [List.getElem?_map, List.getD_eq_getElem?_getD, List.getElem?_eq_getElem (by rw [plc_len]; exact ht)]
    rfl)
  subst hea hel hec
  clear hrow hR hz hP p2 p3 p4 hi0 hz0 hz1 hz2 hS hm8 hG
  generalize OneAt (st ms ds S k (ol ms n S k (sumN ms n))).2.length (opD ms ds S k n) W = Q at HQ ⊢
  generalize hstt : (fun t => st ms ds S k (ol ms n S k t)) = sT at *
  have hst : ∀ t, st ms ds S k (ol ms n S k t) = sT t := fun t => by rw [← hstt]
  simp only [hst] at HOS HOC HO0 HLN HQ
  clear hst hstt
  generalize hEE : sumN ms n = E at *
  have hmm := run_makeMap (P := Try.prog) 180 (W.alloc (suC (.slice A n c) (.slice Y k sc) (.int .i64 o) (.slice (some ⟨gr, 0, none⟩) E ec) (.map (some bm))))
  have M0 := Lib.hid (MapIs.made (W.alloc (suC (.slice A n c) (.slice Y k sc) (.int .i64 o) (.slice (some ⟨gr, 0, none⟩) E ec) (.map (some bm)))) Try.prog 171)
  unfold sfV
  go_enter Try.func105, Try.ntmps105
  go_upto_region 2 with fail
  have s1 : Hid ((W.alloc (suC (.slice A n c) (.slice Y k sc) (.int .i64 o) (.slice (some ⟨gr, 0, none⟩) E ec) (.map (some bm)))).heap.size = W.heap.size + 1) := Lib.hid (by simp)
  generalize hw0 : W.alloc _ = w1 at HB KB M0 hmm s1 ⊢
  clear hw0
  have B2 := Lib.hid (below_then HB.out (below_box w1 (.map #[] 0)))
  have K2 := Lib.hid (Ge.blk_keep (below_box w1 (.map #[] 0)) KB.out)
  go_upto_region 3 with fail
  have hs2 : Hid ((w1.alloc (.map #[] 0)).heap.size = w1.heap.size + 1) := Lib.hid (by simp)
  generalize w1.alloc (.map #[] 0) = w2 at B2 K2 M0 hs2 ⊢
  generalize hmp : w1.heap.size = mp at M0 hs2 ⊢
  have hmpW : Hid (mp = W.heap.size + 1) := Lib.hid (by rw [← hmp]; exact s1.out)
  clear hmm hmp
  obtain ⟨x0, x1, x2, x3, x4⟩ := blk5 K2.out
  have lb := lt_of_heap K2.out
  go_wp2_with fail
  clear x0 x1 x2 x3 x4 lb
  have O0 : Hid (w2.ownsRow (mp + 1) 2 1 (.slice none 0 0) (sT 0).2.length ((sT 0).2.map (Value.int .i64))) := Lib.hid (by rw [HO0.out]; exact ⟨rfl, .inl ⟨rfl, rfl⟩⟩)
  have MB0 : Hid (MB (fun _ => none) (sT 0).1) := Lib.hid (by rw [HO0.out]; exact ⟨fun z _ => rfl, fun q h => by cases h⟩)
  have s2 : mp + 1 ≤ w2.heap.size := by rw [hs2.out]; omega
  go_loopw [3, 6, 7, 8, 13] (fun v _ _ _ i wr => ∃ (t : Nat) (u : Value) (g : Lit → Option Value), t ≤ E ∧ u = v ∧ i = .int .i64 (t : Int) ∧ Hid (Below W.heap.size W wr) ∧ mp + 1 ≤ wr.heap.size ∧ Hid (wr.ownsRow (mp + 1) 2 1 u (sT t).2.length ((sT t).2.map (Value.int .i64))) ∧ Hid (MapIs Try.prog 171 wr mp g) ∧ Hid (MB g (sT t).1)) (fun _ _ _ _ i _ => E - (intOf i).toNat)
  case atStart => exact ⟨0, _, _, Nat.zero_le _, rfl, rfl, B2, s2, O0, M0, MB0⟩
  case round =>
    clear O0 MB0 M0 B2 K2 HB KB s2
    obtain ⟨t, v, g, ht, rfl, rfl, HW, hsz, HO, HM, HMB⟩ := hrel
    have e0 : (0 : Int) ≤ (t : Int) := Int.natCast_nonneg _
    by_cases hlt : t < E
    · have e1 : (t : Int) < (E : Int) := by omega
      have ht1 : t + 1 ≤ E := by omega
      have r0 := (HW.out.cell (p := ⟨gr, t, none⟩) hgl).trans (HRC.out t hlt)
      unfold ptr at r0
      have hmem := HEG.out t hlt
      obtain ⟨x80, x8, m1, m2⟩ := HPC.out _ hmem
      have EG := Lib.hid ((HS.out.below HW.out).edg (eg ms n t) m1 m2).1
      have gi := g_int (x := eg ms n t) x8
      obtain ⟨c0, c1, _, _, c4⟩ := blk5 EG.out
      rw [gi.1] at c0
      rw [gi.2] at c1
      rw [op_eq] at c4
      have CO := Lib.hid (is_open _ _ wr c4)
      rw [opA_none] at CO
      have lp := lt_of_heap EG.out
      have hx0 : (0 : Int) ≤ (pc (eg ms n t) : Int) := Int.natCast_nonneg _
      cases hmt : mate S k (eg ms n t) with
      | some y =>
        have hst := HOC.out t y hmt
        rw [← hst] at HO HMB
        rw [hmt] at CO
        clear c0 c1 c4 gi hst
        go_wp2_with fail
        refine CO.out.mono ?_
        rintro e w7 ⟨rfl, rfl⟩
        go_wp2_with fail
        go_roundw
        case rel => exact ⟨t + 1, _, _, ht1, rfl, by go_num, HW, hsz, HO, HM, HMB⟩
        case measure => simp [intOf]; omega
      | none =>
        have hst := HOS.out t hmt
        rw [hmt] at CO
        have hgot := HMB.out.1 _ x80
        clear c4
        cases hC : (sT t).1 (pc (eg ms n t)) with
        | true =>
          unfold stp at hst
          rw [if_pos hC] at hst
          rw [← hst] at HO HMB
          rw [hC] at hgot
          have hlk := HM.out.look law_ed Try.underlying180 (zeroB wr) (keyE x80)
          rw [hgot] at hlk
          unfold vE at hlk
          go_wp2_with fail
          refine CO.out.mono ?_
          rintro e w7 ⟨rfl, rfl⟩
          go_wp2_with fail
          go_roundw
          case rel => exact ⟨t + 1, _, _, ht1, rfl, by go_num, HW, hsz, HO, HM, HMB⟩
          case measure => simp [intOf]; omega
        | false =>
          unfold stp at hst
          rw [if_neg (by rw [hC]; decide)] at hst
          rw [hC] at hgot
          have hlk := HM.out.look law_ed Try.underlying180 (zeroB wr) (keyE x80)
          rw [hgot] at hlk
          unfold vE at hlk
          obtain ⟨f, s, C', hf, hrun⟩ := HRI.out (sT t).1 (eg ms n t) hmem hmt
          obtain ⟨y1, y2⟩ := cy_of hrun
          rw [y1, y2] at hst
          have hsb := HRS.out _ _ _ _ _ hmem hmt hrun
          have hll := HLN.out t
          have HS1 : Hid (sT (t + 1) = (C', (sT t).2 ++ [s])) := Lib.hid hst
          generalize (sT t).1 = C0 at hrun HMB
          generalize (sT t).2 = l at HO HS1 hll
          clear y1 y2 hst hgot hC
          go_wp2_with fail
          refine CO.out.mono ?_
          rintro e w7 ⟨rfl, rfl⟩
          go_wp2_with fail
          clear hlk CO c0 c1 r0 lp EG gi
          go_loopg [7, 8] f (fun gk a e wr => ∃ (x : Nat × Nat) (C : Nat → Bool) (s1 a0 : Int) (g1 : Lit → Option Value), (x ∈ plc ms n ∧ mate S k x = none) ∧ a = .int .i64 a0 ∧ e = .pointer (some ⟨P x, 0, none⟩) ∧ Run ms ds S k gk C x s1 C' ∧ a0 + s1 = s ∧ 0 ≤ a0 ∧ Hid (Below W.heap.size W wr) ∧ mp + 1 ≤ wr.heap.size ∧ Hid (wr.ownsRow (mp + 1) 2 1 v l.length (l.map (Value.int .i64))) ∧ Hid (MapIs Try.prog 171 wr mp g1) ∧ Hid (MB g1 C))
          case atStart => exact ⟨_, C0, s, 0, g, ⟨hmem, hmt⟩, rfl, rfl, hrun, by omega, by omega, HW, hsz, HO, HM, HMB⟩
          case round =>
            clear HW hsz HO HM HMB hrun hmem hmt x80 x8 m1 m2 hx0
            obtain ⟨x, C, s1, a0, g1, ⟨hx, ho⟩, rfl, rfl, hrun, has, ha0, HW, hsz, HO, HM, HMB⟩ := hrel
            obtain ⟨x80, x8, m1, m2⟩ := HPC.out x hx
            have EG := Lib.hid ((HS.out.below HW.out).edg x m1 m2).1
            have gi := g_int (x := x) x8
            obtain ⟨c0, c1, c2, _, _⟩ := blk5 EG.out
            rw [gi.1] at c0
            rw [gi.2] at c1
            have lp := lt_of_heap EG.out
            have hx0 : (0 : Int) ≤ (pc x : Int) := Int.natCast_nonneg _
            have hgot := HMB.out.1 _ x80
            cases gk with
            | zero =>
              obtain ⟨h1, h2, h3⟩ := hrun
              rw [h1] at hgot
              have hs : a0 = s := by omega
              subst hs h3
              have hl80 : l.length ≤ 80 := by omega
              clear h1 h2 c2
              go_upto_region 13 with (at_lookup; refine wp_look _ rfl _ _ 180 rfl 171 4 law_ed Try.underlying180 (zeroB _) mp g1 rfl HM.out _ (keyN (pc x)) rfl (keyE x80) (.bool true) hgot ?_)
              go_wp2_with (at_builtin; refine wpList_append_own _ rfl _ _ 22 rfl (mp + 1) 2 i0 _ 1 8 Try.underlying22 HI.out.1 HI.out.2.1 HI.out.2.2.1 HI.out.2.2.2 rfl (by decide) _ _ _ rfl (HO.out.alloc _) ⟨wr.heap.size, 0, none⟩ 1 1 [.int .i64 a0] rfl rfl ?c1 ?c2 ?c3 ?c4 ?c5 ?_)
              case c1 =>
                intro q u hu
                rw [Addr.add_lit, Nat.zero_add]
                exact (cell_of_row _ _ q _ _ _ (heap_alloc_new wr _)).trans (by simpa using hu)
              case c2 => simp [Value.oneCell']
              case c3 => unfold maxLen; omega
              case c4 => omega
              case c5 => first | omega | (simp <;> omega)
              intro v' w6 hown2 hgrow _
              have bb := below_box wr (.cells #[.int .i64 a0] 2)
              have HW6 := Lib.hid ((HW.out.alloc HW.out.size _).grown hgrow (by have := HW.out.size; simp; omega) fun g hg => by have := (HO.out.lt g hg).1; have := hmpW.out; omega)
              have HO6 : Hid (w6.ownsRow (mp + 1) 2 1 v' (sT (t + 1)).2.length ((sT (t + 1)).2.map (Value.int .i64))) := Lib.hid (by rw [HS1.out]; simpa using hown2)
              have HM6 := Lib.hid ((HM.out.below bb HM.out.lt).kept hgrow (fun e => by have := (HO.out.lt _ e.symm).1; omega))
              have HB6 : Hid (MB g1 (sT (t + 1)).1) := Lib.hid (by rw [HS1.out]; exact HMB.out)
              have s6 : mp + 1 ≤ w6.heap.size := by have := hgrow.size; simp at this; omega
              clear hown2 hgrow bb c0 c1 EG gi
              go_wp2_with fail
              go_roundw
              case rel => exact ⟨t + 1, _, _, ht1, rfl, by go_num, HW6, s6, HO6, HM6, HB6⟩
              case measure => simp [intOf]; omega
            | succ f' =>
              obtain ⟨h1, s2, hr2, h2⟩ := hrun
              rw [h1] at hgot
              have hs2' := HRS.out _ _ _ _ _ (HFM.out x hx ho).1 (HFM.out x hx ho).2 hr2
              have hdx := HD.out x hx
              have HMB' := Lib.hid (HMB.out.ct (x := x) x80)
              have HKQ : Hid (∀ q, (g1 q).isSome = true → ∃ z, z < 80 ∧ q = keyN z) := Lib.hid HMB.out.2
              obtain ⟨fm1, fm2⟩ := HFM.out x hx ho
              clear h1
              go_upto_region 11 with (at_lookup; refine wp_look _ rfl _ _ 180 rfl 171 4 law_ed Try.underlying180 (zeroB _) mp g1 rfl HM.out _ (keyN (pc x)) rfl (keyE x80) (.bool false) hgot ?_)
              go_upto_region 12 with (at_mapUpdate; refine wp_store _ rfl _ _ _ 180 rfl 171 4 law_ed Try.underlying180 keyN 80 mp g1 HKQ.out (by decide) rfl HM.out _ _ (keyN (pc x)) rfl rfl (keyE x80) ?_; intro w6 hm6 hg6)
              have HM6 := Lib.hid hm6
              have HW6 := Lib.hid (HW.out.grown hg6 HW.out.size fun g hg => by injection hg; have := hmpW.out; omega)
              have HO6 := Lib.hid (row_grown HO.out hg6 (by omega))
              have s6 : mp + 1 ≤ w6.heap.size := Nat.le_trans hsz hg6.size
              have C2 := Lib.hid (CB.out w6 HW6.out x hx ho)
              have EG6 := Lib.hid ((HS.out.below HW6.out).edg x m1 m2).1
              clear hm6 hg6 hgot HW HO HM HMB c0 c1 c2 lp EG
              obtain ⟨_, _, d2, _, _⟩ := blk5 EG6.out
              have lp6 := lt_of_heap EG6.out
              generalize ds x.1 x.2 = dx at d2 h2 hdx
              clear EG6
              go_wp2_with fail
              refine C2.out.mono ?_
              rintro e w9 ⟨rfl, rfl⟩
              go_wp2_with fail
              go_roundg f'
              case measure => omega
              case rel => exact ⟨_, _, s2, a0 + dx, _, ⟨fm1, fm2⟩, by go_num, rfl, hr2, by omega, by omega, HW6, s6, HO6, HM6, HMB'⟩
    · have htE : t = E := by omega
      have e1 : ¬ (t : Int) < (E : Int) := by omega
      rw [htE] at HO
      have HZ := Lib.hid (HQ.out _ _ _ HO.out (by have := hmpW.out; omega) HW.out)
      clear htE HQ
      go_wp2_with fail
      exact HZ.out
end Go.Proofs.Ytpmmfalpcooenab.Vh
