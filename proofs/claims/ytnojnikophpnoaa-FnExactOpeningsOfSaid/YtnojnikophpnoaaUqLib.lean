/- CornersOf: the program's corners. -/
import Derived.Test.YtnojnikophpnoaaUdLib
import Derived.Test.YtnojnikophpnoaaUkLib
import Derived.StillTailTactics
namespace Go.Proofs.Ytnojnikophpnoaa.Uq
set_option linter.unusedVariables false
open Go.RowKit Go.Maps Ft Is Ge Qb Pt Pv Za Mm Zb Zc Zd Vq Sdq Sdu Uf Ug Uc Ud

theorem info_ed : (Try.prog.info? 113).map (fun i => (i.zero, i.size, i.bytes)) = some (some (.agg #[.int .i64 0, .int .i64 0]), 2, 16) := by kernel_rfl
/-- The cells of places, two a place. -/
def pf (x : Nat → Nat) (m : Nat) : Int := if m % 2 = 0 then (x (m / 2) : Int) / 8 else (x (m / 2) : Int) % 8
theorem pf_two (x : Nat → Nat) (t : Nat) : upto (pf x) ((t + 1) * 2) = upto (pf x) (t * 2) ++ [.int .i64 ((x t : Int) / 8), .int .i64 ((x t : Int) % 8)] := by
  rw [show (t + 1) * 2 = t * 2 + 1 + 1 by omega, upto_snoc, upto_snoc]
  have h1 : pf x (t * 2) = (x t : Int) / 8 := by unfold pf; rw [if_pos (by omega), show t * 2 / 2 = t by omega]
  have h2 : pf x (t * 2 + 1) = (x t : Int) % 8 := by unfold pf; rw [if_neg (by omega), show (t * 2 + 1) / 2 = t by omega]
  rw [h1, h2]
  simp
theorem plr_of {n B : Nat} {x : Nat → Nat} {w : World} {v : Value} (h : w.ownsRow B 113 2 v n (upto (pf x) (n * 2))) : ∃ A cap, v = .slice A n cap ∧ PlR w A n x := by
  rcases h.2 with ⟨rfl, rfl⟩ | ⟨g, cap, cur, rfl, hbg, hh, _⟩
  · exact ⟨none, 0, rfl, fun h => absurd h (by omega)⟩
  · exact ⟨_, cap, rfl, fun _ => ⟨g, 0, rfl, lt_of_heap hh, fun i hi => by
      have h1 := h.cellAt (i * 2) (by omega)
      have h2 := h.cellAt (i * 2 + 1) (by omega)
      rw [upto_get _ (by omega)] at h1 h2
      rw [Nat.zero_add]
      unfold pf at h1 h2
      rw [if_pos (by omega), show i * 2 / 2 = i by omega] at h1
      rw [if_neg (by omega), show (i * 2 + 1) / 2 = i by omega] at h2
      exact ⟨h1, h2⟩⟩⟩
theorem row_but {w w' : World} {base : Nat} {e : TypeId} {size n : Nat} {v : Value} {xs : List Value} (h : w.ownsRow base e size v n xs) {b : Nat} (hg : Bw.But b w w') (hb : b < base) : w'.ownsRow base e size v n xs := by
  rcases h with ⟨h1, h2 | ⟨g, cap, cur, hv, hB, hh, h3⟩⟩
  · exact ⟨h1, .inl h2⟩
  · exact ⟨h1, .inr ⟨g, cap, cur, hv, hB, (hg.block g (lt_of_heap hh) (by omega)).trans hh, h3⟩⟩
theorem g_int {x : Nat × Nat} (h : x.2 < 8) : (x.1 : Int) = (pc x : Int) / 8 ∧ (x.2 : Int) = (pc x : Int) % 8 := by unfold pc; omega
set_option maxRecDepth 100000 in
set_option maxHeartbeats 4000000 in
theorem corners (A : Option Addr) (n c : Nat) (N : Nat → ByteArray) (ms : Nat → Nat) (ds : Nat → Nat → Int) (Y : Option Addr) (k sc : Nat) (S : Nat → Int) (o : Int) (hz : Small n N ms k) (hP : PatP n N ms ds k S o)
    (B : Nat) (W : World) (ea : Option Addr) (el ec bm : Nat) (P : Nat × Nat → Nat) (g : Lit → Option Value) (hR : PatR W A n N ms ds Y k S) (hS : Surf B n ms ds (plc ms n) (plc ms n) (mate S k) (.slice ea el ec) bm P g W) :
    Calls Try.prog 79 #[sfV A n c Y k sc o (.slice ea el ec) bm] W fun e w' => e = .returned (.int .i64 (coN ms n S k : Int)) ∧ Below W.heap.size W w' := by
  obtain ⟨p1, p2, p3, p4⟩ := pat_in hP
  have p0 : 1 ≤ n := by have := hP.2.1.1; unfold inB at this; simp at this; omega
  have hm8 : ∀ i, i < n → ms i ≤ 8 := fun i hi => (p2 i hi).2
  have sw := sew_iff.2 hP.2.2
  have hpp : ∀ j, j < k → endA S j ∈ plc ms n ∧ endB S j ∈ plc ms n := fun j hj => ⟨mem_plc.2 (p4 j hj).1, mem_plc.2 (p4 j hj).2⟩
  have hE8 := sum_le hm8
  have hE1 : 0 < sumN ms n := by have := le_sum (f := ms) (show 0 < n by omega); have := (p2 0 (by omega)).1; omega
  have HCO : Hid (cc (fiB ms n S k) (sumN ms n) = coN ms n S k) := Lib.hid (co_eq hm8 sw hpp)
  have HS := Lib.hid hS
  obtain ⟨i0, hi0, hz0, hz1, hz2⟩ := info_parts info_ed
  have HI := Lib.hid (And.intro hi0 (And.intro hz0 (And.intro hz1 hz2)))
  have HB := Lib.hid (below_box W (suC (.slice A n c) (.slice Y k sc) (.int .i64 o) (.slice ea el ec) (.map (some bm))))
  have KB := Lib.hid (heap_alloc_new W (suC (.slice A n c) (.slice Y k sc) (.int .i64 o) (.slice ea el ec) (.map (some bm))))
  have HMK : Hid (∀ w : World, (Instr.makeSlice 135 (.int .i64 0) (.int .i64 (sumN ms n : Int))).run Try.prog w = .ok (.slice (some ⟨w.heap.size, 0, none⟩) 0 (sumN ms n)) (w.alloc (.cells (Go.madeCells (Value.agg #[.int .i64 0, .int .i64 0]).cells (sumN ms n * 2)) 113))) := Lib.hid fun w => by
    have := run_make w _ _ i0 _ Try.underlying135 hi0 hz0 .i64 .i64 0 (sumN ms n) (by omega) (by omega) (by rw [hz2]; omega) (by omega)
    rw [hz1] at this
    simpa using this
  have HU := Lib.hid (pf_two (gX ms n))
  have HU0 : Hid (upto (pf (gX ms n)) (0 * 2) = []) := Lib.hid rfl
  have HPL := Lib.hid (fun B w v h => plr_of (n := sumN ms n) (B := B) (x := gX ms n) (w := w) (v := v) h)
  have HEG : Hid (∀ t, t < sumN ms n → eg ms n t ∈ plc ms n) := Lib.hid fun t ht => eg_mem ht
  have HGX : Hid (∀ t, t < sumN ms n → gX ms n t < 80) := Lib.hid fun t ht => by
    obtain ⟨h1, h2⟩ := mem_plc.1 (eg_mem ht)
    have := hm8 _ h1
    unfold gX pc; omega
  have CJ := Lib.hid (fun w b t h hx hy => joinE w b (ld (gX ms n) (gY ms n S k) t) h (gX ms n t) (gY ms n S k t) hx hy)
  have HST : Hid (∀ t, (fun z => if ld (gX ms n) (gY ms n S k) t z = ld (gX ms n) (gY ms n S k) t (gX ms n t) then ld (gX ms n) (gY ms n S k) t (gY ms n S k t) else ld (gX ms n) (gY ms n S k) t z) = ld (gX ms n) (gY ms n S k) (t + 1)) := Lib.hid fun j => rfl
  have HSN : Hid (∀ t, mate S k (eg ms n t) = none → ld (gX ms n) (gY ms n S k) t = ld (gX ms n) (gY ms n S k) (t + 1)) := Lib.hid fun t ht => funext fun z => by
    have : gY ms n S k t = gX ms n t := by unfold gY gX; rw [ht]
    rw [ld, this]
    split
    · rename_i h; exact h
    · rfl
  have HGY : Hid (∀ t y, t < sumN ms n → mate S k (eg ms n t) = some y → (y ∈ plc ms n ∧ nxt ms y ∈ plc ms n) ∧ gY ms n S k t = pc (nxt ms y) ∧ pc (nxt ms y) < 80) := Lib.hid fun t y ht hy => by
    obtain ⟨j, hj, r⟩ := mate_some hy
    have hm : y ∈ plc ms n := by
      rcases r with ⟨_, e⟩ | ⟨_, e⟩
      · rw [← e]; exact (hpp j hj).2
      · rw [← e]; exact (hpp j hj).1
    have hn := nxt_mem hm
    obtain ⟨h1, h2⟩ := mem_plc.1 hn
    have := hm8 _ h1
    exact ⟨⟨hm, hn⟩, by unfold gY; rw [hy], by unfold pc; omega⟩
  have CF := Lib.hid (fun w b h A c hA => firstsE w b (ld (gX ms n) (gY ms n S k) (sumN ms n)) h A (sumN ms n) c (gX ms n) (by omega) (fun i hi => HGX.out i hi) hA)
  have HFI : Hid (∀ t, fiB ms n S k t = decide (fi (ld (gX ms n) (gY ms n S k) (sumN ms n)) (gX ms n) t = t)) := Lib.hid fun t => rfl
  have HM8 := Lib.hid hm8
  have L0 : Hid (StE (W.alloc (suC (.slice A n c) (.slice Y k sc) (.int .i64 o) (.slice ea el ec) (.map (some bm))) |>.alloc (.map #[] 0)) (W.alloc (suC (.slice A n c) (.slice Y k sc) (.int .i64 o) (.slice ea el ec) (.map (some bm)))).heap.size (ld (gX ms n) (gY ms n S k) 0)) := Lib.hid (Sta.made _)
  have hrow := hS.row
  rw [plc_len] at hrow
  obtain ⟨gr, ecap, hsl, hgr, hgl⟩ := hrow.form hE1
  injection hsl with hea hel hec
  have HRC : Hid (∀ t, t < sumN ms n → W.cell? ⟨gr, t, none⟩ = some (ptr (P (eg ms n t)))) := Lib.hid fun t ht => (by
    subst hea hel hec
    have := hrow.cellAt t (by omega)
    rw [this]
    unfold eg
    rw [List.getElem?_map, List.getD_eq_getElem?_getD, List.getElem?_eq_getElem (by rw [plc_len]; exact ht)]
    rfl)
  subst hea hel hec
  clear hrow hR hz hP p2 p3 p4 hi0 hz0 hz1 hz2 hS hm8 sw hpp
  generalize ld (gX ms n) (gY ms n S k) = L at *
  generalize fiB ms n S k = fb at HCO HFI
  generalize hEE : sumN ms n = E at *
  have hmm := run_makeMap (P := Try.prog) 134 (W.alloc (suC (.slice A n c) (.slice Y k sc) (.int .i64 o) (.slice (some ⟨gr, 0, none⟩) E ec) (.map (some bm))))
  unfold sfV
  go_enter Try.func79, Try.ntmps79
  go_upto_region 1 with fail
  have s1 : Hid ((W.alloc (suC (.slice A n c) (.slice Y k sc) (.int .i64 o) (.slice (some ⟨gr, 0, none⟩) E ec) (.map (some bm)))).heap.size = W.heap.size + 1) := Lib.hid (by simp)
  generalize hw0 : W.alloc _ = w1 at HB KB L0 hmm s1 ⊢
  clear hw0
  have B2 := Lib.hid (below_then HB.out (below_box w1 (.map #[] 0)))
  have K2 := Lib.hid (Ge.blk_keep (below_box w1 (.map #[] 0)) KB.out)
  go_upto_region 2 with fail
  have hs2 : Hid ((w1.alloc (.map #[] 0)).heap.size = w1.heap.size + 1) := Lib.hid (by simp)
  generalize w1.alloc (.map #[] 0) = w2 at B2 K2 L0 hs2 ⊢
  generalize hmp : w1.heap.size = mp at L0 hs2 ⊢
  have hmpW : Hid (mp = W.heap.size + 1) := Lib.hid (by rw [← hmp]; exact s1.out)
  clear hmm hmp
  obtain ⟨x0, x1, x2, x3, x4⟩ := blk5 K2.out
  have lb := lt_of_heap K2.out
  have hmk := HMK.out w2
  go_upto_region 4 with fail
  clear hmk HMK x0 x1 x2 x3 x4 lb
  have bb := below_box w2 (.cells (Go.madeCells (Value.agg #[.int .i64 0, .int .i64 0]).cells (E * 2)) 113)
  have B3 := Lib.hid (below_then B2.out bb)
  have K3 := Lib.hid (Ge.blk_keep bb K2.out)
  have L3 := Lib.hid (L0.out.below bb)
  have O3 : Hid ((w2.alloc (.cells (Go.madeCells (Value.agg #[.int .i64 0, .int .i64 0]).cells (E * 2)) 113)).ownsRow (mp + 1) 113 2 (.slice (some ⟨w2.heap.size, 0, none⟩) 0 E) 0 (upto (pf (gX ms n)) (0 * 2))) := Lib.hid (by
    rw [HU0.out]
    exact ⟨rfl, .inr ⟨_, E, _, rfl, by have := hs2.out; omega, heap_alloc_new _ _, by omega, by unfold maxLen; omega, by rw [size_madeCells], rfl⟩⟩)
  have s3 : mp + 1 ≤ (w2.alloc (.cells (Go.madeCells (Value.agg #[.int .i64 0, .int .i64 0]).cells (E * 2)) 113)).heap.size := by have := hs2.out; simp; omega
  clear bb B2 K2 L0
  go_loopw [4, 6, 18] (fun v _ i wr => ∃ (t : Nat) (u : Value), t ≤ E ∧ u = v ∧ i = .int .i64 (t : Int) ∧ Hid (Below W.heap.size W wr) ∧ Hid (wr.heap[W.heap.size]? = some (suC (.slice A n c) (.slice Y k sc) (.int .i64 o) (.slice (some ⟨gr, 0, none⟩) E ec) (.map (some bm)))) ∧ Hid (StE wr mp (L t)) ∧ Hid (wr.ownsRow (mp + 1) 113 2 u t (upto (pf (gX ms n)) (t * 2))) ∧ mp + 1 ≤ wr.heap.size) (fun _ _ i _ => E - (intOf i).toNat)
  case atStart => exact ⟨0, _, Nat.zero_le _, rfl, rfl, B3, K3, L3, O3, s3⟩
  case round =>
    clear B3 K3 L3 O3 s3
    obtain ⟨t, v, ht, rfl, rfl, HW, HK, HL, HO, hsz⟩ := hrel
    have e0 : (0 : Int) ≤ (t : Int) := Int.natCast_nonneg _
    by_cases hlt : t < E
    · have e1 : (t : Int) < (E : Int) := by omega
      have ht1 : t + 1 ≤ E := by omega
      have r0 := (HW.out.cell (p := ⟨gr, t, none⟩) hgl).trans (HRC.out t hlt)
      obtain ⟨m1, m2⟩ := mem_plc.1 (HEG.out t hlt)
      have m8 := HM8.out _ m1
      have hx8 := HGX.out t hlt
      have HSr := Lib.hid (HS.out.below HW.out)
      have EG := Lib.hid (HSr.out.edg (eg ms n t) m1 m2).1
      have gi := g_int (x := eg ms n t) (by omega)
      have HUt := Lib.hid (HU.out t)
      have hgx : pc (eg ms n t) = gX ms n t := rfl
      rw [hgx] at gi
      obtain ⟨c0, c1, c2, c3, c4⟩ := blk5 EG.out
      rw [gi.1] at c0
      rw [gi.2] at c1
      have lp := lt_of_heap EG.out
      unfold ptr at r0
      have hx0 : (0 : Int) ≤ (gX ms n t : Int) := Int.natCast_nonneg _
      go_upto_region 6 with fail
      go_upto_region 7 with (at_builtin; refine wpList_append_own _ rfl _ _ 135 rfl (mp + 1) 113 i0 _ 2 16 Try.underlying135 HI.out.1 HI.out.2.1 HI.out.2.2.1 HI.out.2.2.2 rfl (by decide) _ _ _ rfl (HO.out.alloc _) ⟨wr.heap.size, 0, none⟩ 1 1 [.int .i64 ((gX ms n t : Int) / 8), .int .i64 ((gX ms n t : Int) % 8)] rfl rfl ?c1 ?c2 ?c3 ?c4 ?c5 ?_)
      case c1 =>
        intro q' u hu
        rw [Addr.add_lit, Nat.zero_add]
        exact (cell_of_row _ _ q' _ _ _ (heap_alloc_new wr _)).trans (by simpa using hu)
      case c2 => simp [Value.oneCell']
      case c3 => unfold maxLen; omega
      case c4 => omega
      case c5 => first | omega | (simp <;> omega)
      intro v' w6 hown2 hgrow _
      have hmw := hmpW.out
      have HW6 := Lib.hid ((HW.out.alloc HW.out.size _).grown hgrow (by have := HW.out.size; simp; omega) fun g hg => by have := (HO.out.lt g hg).1; omega)
      have HO6 : Hid (w6.ownsRow (mp + 1) 113 2 v' (t + 1) (upto (pf (gX ms n)) ((t + 1) * 2))) := Lib.hid (by rw [HUt.out]; exact hown2)
      have bb := below_box wr (.cells #[.int .i64 ((gX ms n t : Int) / 8), .int .i64 ((gX ms n t : Int) % 8)] 113)
      have HK6 := Lib.hid ((hgrow.block _ (lt_of_heap (Ge.blk_keep bb HK.out)) (fun e => by have := (HO.out.lt _ e.symm).1; omega)).trans (Ge.blk_keep bb HK.out))
      have HL6 := Lib.hid ((HL.out.below bb).of_block (hgrow.block mp (HL.out.below bb).lt (fun e => by have := (HO.out.lt _ e.symm).1; omega)))
      have s6 : mp + 1 ≤ w6.heap.size := by have := hgrow.size; simp at this; omega
      clear hown2 hgrow bb hmw HW HO HK HL c0 c1 c2 c3 c4 lp r0 EG HSr hsz
      go_upto_region 7 with fail
      have HSr := Lib.hid (HS.out.below HW6.out)
      have EG := Lib.hid (HSr.out.edg (eg ms n t) m1 m2).1
      obtain ⟨c0, c1, c2, c3, c4⟩ := blk5 EG.out
      rw [gi.1] at c0
      rw [gi.2] at c1
      rw [op_eq] at c4
      have CO := Lib.hid (is_open _ _ w6 c4)
      rw [opA_none] at CO
      have lp := lt_of_heap EG.out
      cases hmt : mate S k (eg ms n t) with
      | none =>
        rw [hmt] at CO
        have HLt := Lib.hid (HSN.out t hmt)
        rw [HLt.out] at HL6
        clear c0 c1 c2 c3 c4 lp
        go_wp2_with fail
        refine CO.out.mono ?_
        rintro e w7 ⟨rfl, rfl⟩
        go_wp2_with fail
        go_roundw
        case rel => exact ⟨t + 1, _, ht1, rfl, by go_num, HW6, HK6, HL6, HO6, s6⟩
        case measure => simp [intOf]; omega
      | some y =>
        rw [hmt] at CO
        obtain ⟨⟨y1, y2⟩, y3, y4⟩ := HGY.out t y hlt hmt
        obtain ⟨ym1, ym2⟩ := mem_plc.1 y1
        obtain ⟨zm1, zm2⟩ := mem_plc.1 y2
        have EY := Lib.hid (HSr.out.edg y ym1 ym2).1
        have EZ := Lib.hid (HSr.out.edg (nxt ms y) zm1 zm2).1
        have z8 := HM8.out _ zm1
        have gz := g_int (x := nxt ms y) (by omega)
        rw [← y3] at gz y4
        clear y3
        obtain ⟨_, _, _, d3, _⟩ := blk5 EY.out
        obtain ⟨f0, f1, _, _, _⟩ := blk5 EZ.out
        rw [gz.1] at f0
        rw [gz.2] at f1
        have ca : w6.cell? ⟨P (eg ms n t), 4, none⟩ = some (.pointer (some ⟨P y, 0, none⟩)) := by rw [c4]; unfold opA; rw [hmt]
        unfold ptr at d3
        have lpy := lt_of_heap EY.out
        have lpz := lt_of_heap EZ.out
        have hy0 : (0 : Int) ≤ (gY ms n S k t : Int) := Int.natCast_nonneg _
        have HLj := Lib.hid (HST.out t)
        have C := Lib.hid (fun w h => CJ.out w mp t h hx8 y4)
        rw [HLj.out] at C
        unfold vE at C
        clear c2 c3 c4 EG EY EZ gz HUt
        go_wp2_with fail
        refine CO.out.mono ?_
        rintro e w7 ⟨rfl, rfl⟩
        go_upto_region 8 with fail
        go_still_tail 15, (by kernel_rfl)
        change wpList _ _ _ _ _ w6.drew
        have HWd := Lib.hid (Below.drew HW6.out)
        have HKd : Hid (w6.drew.heap[W.heap.size]? = some (suC (.slice A n c) (.slice Y k sc) (.int .i64 o) (.slice (some ⟨gr, 0, none⟩) E ec) (.map (some bm)))) := HK6
        have HLd := Lib.hid (HL6.out.below (Below.drew (Below.refl _ _)))
        have HOd : Hid (w6.drew.ownsRow (mp + 1) 113 2 v' (t + 1) (upto (pf (gX ms n)) ((t + 1) * 2))) := HO6
        have sd : mp + 1 ≤ w6.drew.heap.size := s6
        clear c0 c1 ca d3 f0 f1 lp lpy lpz HW6 HK6 HL6 HO6 s6 CO HSr
        generalize w6.drew = wd at HWd HKd HLd HOd sd ⊢
        go_wp2_with fail
        refine (C.out wd HLd.out).mono ?_
        rintro e w8 ⟨rfl, hl8, hb8⟩
        have hmw := hmpW.out
        have HL8 := Lib.hid hl8
        have HW8 := Lib.hid (HWd.out.trans (hb8.below (by omega) HWd.out.size))
        have HK8 := Lib.hid (Bw.blk_but HKd.out hb8 (by omega))
        have HO8 := Lib.hid (row_but HOd.out hb8 (by omega))
        have s8 : mp + 1 ≤ w8.heap.size := Nat.le_trans sd hb8.size
        clear hl8 hb8 hmw C
        go_wp2_with fail
        go_roundw
        case rel => exact ⟨t + 1, _, ht1, rfl, by go_num, HW8, HK8, HL8, HO8, s8⟩
        case measure => simp [intOf]; omega
    · have htE : t = E := by omega
      have e1 : ¬ (t : Int) < (E : Int) := by omega
      rw [htE] at HL HO
      obtain ⟨A2, cap2, rfl, HP2⟩ := HPL.out _ _ _ HO.out
      have C := Lib.hid (CF.out wr mp HL.out A2 cap2 HP2)
      clear HO HP2 CJ HST HSN HGY HRC HU HU0 HEG
      go_wp2_with fail
      refine C.out.mono ?_
      rintro e w7 ⟨A3, cap3, rfl, HN3, b7⟩
      have HB7 := Lib.hid (below_then HW.out b7)
      have HN7 := Lib.hid HN3.out.nums
      clear b7 C HN3
      go_wp2_with fail
      go_loop [7, 8, 9, 53] (fun q _ _ i => ∃ t : Nat, t ≤ E ∧ i = .int .i64 (t : Int) ∧ q = .int .i64 (cc fb t : Int)) (fun _ _ _ i => E - (intOf i).toNat)
      case atStart => exact ⟨0, Nat.zero_le _, rfl, rfl⟩
      case round =>
        clear htE e1 hlt ht e0
        obtain ⟨t, ht, rfl, rfl⟩ := hrel
        have e0 : (0 : Int) ≤ (t : Int) := Int.natCast_nonneg _
        by_cases hlt : t < E
        · have e1 : (t : Int) < (E : Int) := by omega
          have ht1 : t + 1 ≤ E := by omega
          obtain ⟨b1, o1, rfl, hb1, hc1⟩ := HN7.out (by omega)
          have x0 : w7.cell? ⟨b1, o1 + t, none⟩ = some (.int .i64 (fi (L E) (gX ms n) t : Int)) := hc1 t hlt
          have hcl := cc_le fb t
          have hft := HFI.out t
          have hcs : cc fb (t + 1) = cc fb t + (if fb t then 1 else 0) := rfl
          clear hc1
          generalize fi (L E) (gX ms n) t = ft at x0 hft
          generalize cc fb t = q0 at hcl hcs ⊢
          by_cases e : ft = t
          · rw [e] at x0
            rw [hft, if_pos (by simpa using e)] at hcs
            go_wp2_with fail
            go_round
            case rel => exact ⟨t + 1, ht1, by go_num, by rw [hcs]; go_num⟩
            case measure => simp [intOf]; omega
          · rw [hft, if_neg (by simpa using e)] at hcs
            have hne : ((ft : Int) == (t : Int)) = false := by
              have : ¬ (ft : Int) = (t : Int) := by omega
              simpa using this
            go_wp2_with fail
            go_round
            case rel => exact ⟨t + 1, ht1, by go_num, by rw [hcs]; go_num⟩
            case measure => simp [intOf]; omega
        · have htE : t = E := by omega
          have e1 : ¬ (t : Int) < (E : Int) := by omega
          rw [htE]
          rw [HCO.out]
          go_wp2_with fail
          go_ret
          exact ⟨rfl, HB7.out⟩
end Go.Proofs.Ytnojnikophpnoaa.Uq
