/- OpeningsOf: the spec's l08Openings. -/
import Derived.Test.YtpmmfalpcooenabViLib
namespace Go.Proofs.Ytpmmfalpcooenab.Vj
set_option linter.unusedVariables false
open Go.RowKit Go.Maps Ft Is Ge Qb Pt Pv Za Mm Zb Zc Zd Vq Sdq Sdu Uf Ug Uh Uc Ux Vo Vc Vd Vf Vg Vp Vi

def lx (l : List (Nat × Nat)) (i : Nat) : Nat × Nat := l.getD i (0, 0)
theorem lx_get {l : List (Nat × Nat)} {i : Nat} (h : i < l.length) : l[i]? = some (lx l i) ∧ l[i] = lx l i := by
  unfold lx
  rw [List.getD_eq_getElem?_getD, List.getElem?_eq_getElem h]
  exact ⟨rfl, rfl⟩
theorem om_read {w : World} {B : Nat} {a : Option Addr} {cap m : Nat} {l : List (Nat × Nat)} {G : Nat → Nat} (h : OM w B (.slice a m cap) l G) : m = l.length ∧ ∀ r, r < l.length → ∃ gb, a = some ⟨gb, 0, none⟩ ∧ gb < w.heap.size ∧ w.cell? ⟨gb, r, none⟩ = some (.slice (some ⟨G r, 0, none⟩) 2 2) ∧ w.cell? ⟨G r, 0, none⟩ = some (.int .i64 ((lx l r).1 : Int)) ∧ w.cell? ⟨G r, 1, none⟩ = some (.int .i64 ((lx l r).2 : Int)) := by
  rcases h.out.2 with ⟨hv, h0⟩ | ⟨g, c, cur, hv, hbg, hh, _⟩
  · injection hv with h1 h2 h3
    exact ⟨by omega, fun r hr => by omega⟩
  · injection hv with h1 h2 h3
    refine ⟨h2, fun r hr => ⟨g, h1, lt_of_heap hh, ?_, ?_⟩⟩
    · have := h.out
      rw [h1, h2, h3] at this
      exact (this.cellAt r (by omega)).trans (by simp [hr])
    · obtain ⟨c0, c1⟩ := Pt.blk2 (h.inn r _ (lx_get hr).1).1
      exact ⟨c0, c1⟩
theorem Pr2.row_set {w : World} {base : Nat} {e : TypeId} {size n : Nat} {v : Value} {xs : List Value} (h : w.ownsRow base e size v n xs) {b : Nat} (hb : b < base) (i : Nat) (u : Value) : (w.setCell ⟨b, i, none⟩ u).ownsRow base e size v n xs :=
  Zb.row_set h fun e => by have := (h.lt _ e.symm).1; omega
theorem sb_congr {w : World} {g n : Nat} {C D : Nat → Bool} (h : SB w g n C) (e : ∀ i, i < n → C i = D i) : SB w g n D := ⟨h.1, fun i hi => by rw [h.2.1 i hi, e i hi], h.2.2⟩
set_option maxRecDepth 100000 in
set_option maxHeartbeats 4000000 in
theorem s_openings (g : Nat) (A : Option Addr) (n c : Nat) (N : Nat → ByteArray) (ms : Nat → Nat) (ds : Nat → Nat → Int) (Y : Option Addr) (k sc : Nat) (S : Nat → Int) (o : Int) (hz : Small n N ms k) (hP : PatP n N ms ds k S o) (w : World) (h : Boxed w g A n c N ms ds Y k sc S o) :
    Calls Try.prog 134 #[.pointer (some ⟨g, 0, none⟩)] w (OneAt (st ms ds S k (ol ms n S k (sumN ms n))).2.length (opD ms ds S k n) w) := by
  obtain ⟨p1, p2, p3, p4⟩ := pat_in hP
  have hG := good_of hP
  have hm8 : ∀ i, i < n → ms i ≤ 8 := fun i hi => (p2 i hi).2
  have HX := Lib.hid h
  have CO := Lib.hid (s_open g A n c N ms ds Y k sc S o hz hP w h)
  have CF := Lib.hid (fun x hx ho W hW => s_follow g A n c N ms ds Y k sc S o hz hP (x := x) hx ho W hW)
  have hLS := lst_of (S := S) (k := k) hm8
  have hlen : (ol ms n S k (sumN ms n)).length ≤ 80 := by
    rw [ol_len]
    have := cc_le (opB ms n S k) (sumN ms n)
    have := sum_le hm8
    omega
  obtain ⟨i0, hi0, hz0, hz1, hz2⟩ := info_parts info_int
  have HI := Lib.hid (And.intro hi0 (And.intro hz0 (And.intro hz1 hz2)))
  obtain ⟨j0, hj0, ha0, ha1, ha2⟩ := info_parts info_bool
  have HD : Hid (∀ x : Nat × Nat, x ∈ plc ms n → 0 ≤ ds x.1 x.2 ∧ ds x.1 x.2 ≤ 10000) := Lib.hid fun x hx => by
    obtain ⟨h1, h2⟩ := mem_plc.1 hx
    have := p3 _ _ h1 h2
    omega
  have HRI : Hid (∀ C x, x ∈ plc ms n → mate S k x = none → ∃ f s C', f ≤ 80 ∧ Run ms ds S k f C x s C') := Lib.hid fun C x hx ho => by
    obtain ⟨f, s, C', hf, r⟩ := run_is hG ds _ C x rfl hx ho
    have := un_le ms n C
    have := sum_le hm8
    exact ⟨f, s, C', by omega, r⟩
  have HRS : Hid (∀ f C x s C', x ∈ plc ms n → mate S k x = none → Run ms ds S k f C x s C' → 0 ≤ s ∧ s ≤ 10000 * (f : Int)) := Lib.hid fun f C x s C' hx ho h => run_s hG HD.out hx ho h
  have HFM := Lib.hid (fun x hx ho => Good.fol_mem hG (x := x) hx ho)
  have HPM : Hid (∀ x, x ∈ plc ms n → x.1 < n ∧ x.2 < ms x.1 ∧ ms x.1 ≤ 8) := Lib.hid fun x hx => ⟨(mem_plc.1 hx).1, (mem_plc.1 hx).2, hm8 _ (mem_plc.1 hx).1⟩
  have HQ : Hid (∀ w' v B', w'.ownsRow B' 2 1 v (st ms ds S k (ol ms n S k (sumN ms n))).2.length ((st ms ds S k (ol ms n S k (sumN ms n))).2.map (Value.int .i64)) → w.heap.size ≤ B' → Below w.heap.size w w' → OneAt (st ms ds S k (ol ms n S k (sumN ms n))).2.length (opD ms ds S k n) w (.returned v) w') := Lib.hid fun w' v B' h1 h2 h3 => by
    rw [← upto_list] at h1
    exact one_of h1 h2 h3
  generalize OneAt (st ms ds S k (ol ms n S k (sumN ms n))).2.length (opD ms ds S k n) w = Q at HQ ⊢
  generalize ol ms n S k (sumN ms n) = l at *
  have HM : Hid (∀ i, i < l.length → lx l i ∈ plc ms n ∧ mate S k (lx l i) = none) := Lib.hid fun i hi => by have := hLS.mem i hi; rw [(lx_get hi).2] at this; exact this
  have HJ : Hid (∀ i j, i < l.length → j < l.length → pc (lx l i) = pc (lx l j) → i = j) := Lib.hid fun i j hi hj e => hLS.inj i j hi hj (by rw [(lx_get hi).2, (lx_get hj).2]; exact e)
  have HH : Hid (∀ x, x ∈ plc ms n → mate S k x = none → ∃ i, i < l.length ∧ lx l i = x) := Lib.hid fun x hx ho => by
    obtain ⟨i, hi, e⟩ := hLS.has x hx ho
    exact ⟨i, hi, by rw [← (lx_get hi).2]; exact e⟩
  have HST : Hid (∀ i, i < l.length → st ms ds S k (l.take (i + 1)) = stp ms ds S k (st ms ds S k (l.take i)) (lx l i)) := Lib.hid fun i hi => by
    rw [← st_snoc, List.take_add_one, (lx_get hi).1]; rfl
  have HSL : Hid (∀ i, (st ms ds S k (l.take i)).2.length ≤ i) := Lib.hid fun i => by
    have := st_len ms ds S k (l.take i)
    rw [List.length_take] at this
    omega
  have HSE : Hid (st ms ds S k (l.take l.length) = st ms ds S k l) := Lib.hid (by rw [List.take_length])
  have HS0 : Hid (st ms ds S k (l.take 0) = (fun _ => false, [])) := Lib.hid rfl
  have HMK : Hid (∀ w : World, (Instr.makeSlice 194 (.int .i64 (l.length : Int)) (.int .i64 (l.length : Int))).run Try.prog w = .ok (.slice (some ⟨w.heap.size, 0, none⟩) l.length l.length) (w.alloc (.cells (Go.madeCells #[Value.bool false] l.length) 4))) := Lib.hid fun w => by
    have := run_make w _ _ j0 _ Try.underlying194 hj0 ha0 .i64 .i64 (l.length : Int) (l.length : Int) (by omega) (by omega) (by rw [ha2]; omega) (by omega)
    rw [ha1, show ((l.length : Int)).toNat = l.length by omega, Nat.mul_one] at this
    exact this
  have HSB : Hid (∀ w : World, SB (w.alloc (.cells (Go.madeCells #[Value.bool false] l.length) 4)) w.heap.size l.length (fun _ => false)) := Lib.hid fun w => ⟨by simp, fun i hi => by
    refine (cell_of_row _ _ i _ _ _ (heap_alloc_new w _)).trans ?_
    rw [← Array.getElem?_toList, Go.toList_madeCells_one]
    simp [hi], fun i => blk_free (heap_alloc_new w _) i⟩
  clear h hz hP p2 p3 p4 hG hLS hi0 hz0 hz1 hz2 hj0 ha0 ha1 ha2 hm8
  go_enter Try.func134, Try.ntmps134
  go_wp2_with fail
  refine CO.out.mono ?_
  rintro e w1 ⟨v, G, rfl, HO, b1⟩
  have HB1 := Lib.hid b1
  obtain ⟨a, m, cap, rfl⟩ := own_slice HO.out.out
  obtain ⟨hm, hrd⟩ := om_read HO.out
  subst hm
  have HRD : Hid (∀ W, Below w1.heap.size w1 W → ∀ r, r < l.length → ∃ gb, a = some ⟨gb, 0, none⟩ ∧ W.cell? ⟨gb, r, none⟩ = some (.slice (some ⟨G r, 0, none⟩) 2 2) ∧ W.cell? ⟨G r, 0, none⟩ = some (.int .i64 ((lx l r).1 : Int)) ∧ W.cell? ⟨G r, 1, none⟩ = some (.int .i64 ((lx l r).2 : Int))) := Lib.hid fun W hW r hr => by
    obtain ⟨gb, e, _, h1, h2, h3⟩ := (om_read (HO.out.below hW)).2 r hr
    exact ⟨gb, e, h1, h2, h3⟩
  clear hrd CO
  have hmk := HMK.out w1
  have hz1' := b1.size
  go_upto_region 3 with fail
  clear hmk HMK
  have hgs0 : Hid (w.heap.size ≤ w1.heap.size) := Lib.hid hz1'
  have SB2 := Lib.hid (HSB.out w1)
  have B2 := Lib.hid (below_box w1 (.cells (Go.madeCells #[Value.bool false] l.length) 4))
  have s2 : Hid ((w1.alloc (.cells (Go.madeCells #[Value.bool false] l.length) 4)).heap.size = w1.heap.size + 1) := Lib.hid (by simp)
  generalize w1.alloc (.cells (Go.madeCells #[Value.bool false] l.length) 4) = w2 at SB2 B2 s2 ⊢
  generalize hgs : w1.heap.size = gs at SB2 s2 hgs0 ⊢
  have HGS : Hid (w1.heap.size = gs) := Lib.hid hgs
  clear hgs hz1'
  go_wp2_with fail
  have bb := below_box w2 (.cells #[] 2)
  have B3 := Lib.hid (below_then B2.out bb)
  have SB3 : Hid (SB (w2.alloc (.cells #[] 2)) gs l.length (fun r => (st ms ds S k (l.take 0)).1 (pc (lx l r)))) := Lib.hid (by rw [HS0.out]; exact SB2.out.below bb)
  have O3 : Hid ((w2.alloc (.cells #[] 2)).ownsRow (gs + 1) 2 1 (.slice (some ⟨w2.heap.size, 0, none⟩) 0 0) (st ms ds S k (l.take 0)).2.length ((st ms ds S k (l.take 0)).2.map (Value.int .i64))) := Lib.hid (by
    rw [HS0.out]
    exact ⟨rfl, .inr ⟨_, 0, _, rfl, by rw [s2.out]; exact Nat.le_refl _, heap_alloc_new _ _, by simp, by unfold maxLen; omega, rfl, rfl⟩⟩)
  have s3 : gs + 1 ≤ (w2.alloc (.cells #[] 2)).heap.size := by have := s2.out; simp; omega
  clear bb SB2 B2
  go_loopw [5, 6, 7, 8, 9, 10, 11] (fun v i _ _ _ _ _ wr => ∃ (q : Nat) (u : Value), q ≤ l.length ∧ u = v ∧ i = .int .i64 (q : Int) ∧ Hid (Below w1.heap.size w1 wr) ∧ gs + 1 ≤ wr.heap.size ∧ Hid (wr.ownsRow (gs + 1) 2 1 u (st ms ds S k (l.take q)).2.length ((st ms ds S k (l.take q)).2.map (Value.int .i64))) ∧ Hid (SB wr gs l.length (fun r => (st ms ds S k (l.take q)).1 (pc (lx l r))))) (fun _ i _ _ _ _ _ _ => l.length - (intOf i).toNat)
  case atStart => exact ⟨0, _, Nat.zero_le _, rfl, rfl, B3, s3, O3, SB3⟩
  case round =>
    clear B3 s3 O3 SB3
    obtain ⟨q, v, hq, rfl, rfl, HW, hsz, HO, HSr⟩ := hrel
    have e0 : (0 : Int) ≤ (q : Int) := Int.natCast_nonneg _
    by_cases hlt : q < l.length
    · have e1 : (q : Int) < (l.length : Int) := by omega
      have hq1 : q + 1 ≤ l.length := by omega
      have b0 : wr.cell? ⟨gs, q, none⟩ = some (.bool ((st ms ds S k (l.take q)).1 (pc (lx l q)))) := HSr.out.2.1 q hlt
      have hst := HST.out q hlt
      unfold stp at hst
      have hll := HSL.out q
      cases hC : (st ms ds S k (l.take q)).1 (pc (lx l q)) with
      | true =>
        rw [if_pos hC] at hst
        rw [hC] at b0
        rw [← hst] at HO HSr
        clear hst hC
        go_wp2_with fail
        go_roundw
        case rel => exact ⟨q + 1, _, hq1, rfl, by go_num, HW, hsz, HO, HSr⟩
        case measure => simp [intOf]; omega
      | false =>
        rw [if_neg (by rw [hC]; decide)] at hst
        rw [hC] at b0
        obtain ⟨hxm, hxo⟩ := HM.out q hlt
        obtain ⟨f, s, C', hf, hrun⟩ := HRI.out (st ms ds S k (l.take q)).1 (lx l q) hxm hxo
        obtain ⟨y1, y2⟩ := cy_of hrun
        rw [y1, y2] at hst
        have hsb := HRS.out _ _ _ _ _ hxm hxo hrun
        have HS1 : Hid (st ms ds S k (l.take (q + 1)) = (C', (st ms ds S k (l.take q)).2 ++ [s])) := Lib.hid hst
        generalize (st ms ds S k (l.take q)).1 = C0 at hrun HSr
        generalize (st ms ds S k (l.take q)).2 = L at HO HS1 hll
        clear y1 y2 hst hC
        go_wp2_with fail
        clear b0
        go_loopg [7, 8, 9, 10, 11] f (fun gk a kk _ _ _ wr => ∃ (r : Nat) (C : Nat → Bool) (s1 a0 : Int), r < l.length ∧ a = .int .i64 a0 ∧ kk = .int .i64 (r : Int) ∧ Run ms ds S k gk C (lx l r) s1 C' ∧ a0 + s1 = s ∧ 0 ≤ a0 ∧ Hid (Below w1.heap.size w1 wr) ∧ gs + 1 ≤ wr.heap.size ∧ Hid (wr.ownsRow (gs + 1) 2 1 v L.length (L.map (Value.int .i64))) ∧ Hid (SB wr gs l.length (fun i => C (pc (lx l i)))))
        case atStart => exact ⟨q, C0, s, 0, hlt, rfl, rfl, hrun, by omega, by omega, HW, hsz, HO, HSr⟩
        case round =>
          clear HW hsz HO HSr hrun hxm hxo
          obtain ⟨r, C, s1, a0, hr, rfl, rfl, hrun, has, ha0, HW, hsz, HO, HSr⟩ := hrel
          have f0 : (0 : Int) ≤ (r : Int) := Int.natCast_nonneg _
          have f1 : (r : Int) < (l.length : Int) := by omega
          have b0 : wr.cell? ⟨gs, r, none⟩ = some (.bool (C (pc (lx l r)))) := HSr.out.2.1 r hr
          have bf := HSr.out.2.2 r
          have bl := HSr.out.1
          cases gk with
          | zero =>
            obtain ⟨h1, h2, h3⟩ := hrun
            rw [h1] at b0
            have hs : a0 = s := by omega
            subst hs h3
            clear h1 h2 bf bl
            go_wp2_with (at_builtin; refine wpList_append_own _ rfl _ _ 22 rfl (gs + 1) 2 i0 _ 1 8 Try.underlying22 HI.out.1 HI.out.2.1 HI.out.2.2.1 HI.out.2.2.2 rfl (by decide) _ _ _ rfl (HO.out.alloc _) ⟨wr.heap.size, 0, none⟩ 1 1 [.int .i64 a0] rfl rfl ?c1 ?c2 ?c3 ?c4 ?c5 ?_)
            case c1 =>
              intro q' u hu
              rw [Addr.add_lit, Nat.zero_add]
              exact (cell_of_row _ _ q' _ _ _ (heap_alloc_new wr _)).trans (by simpa using hu)
            case c2 => simp [Value.oneCell']
            case c3 => unfold maxLen; omega
            case c4 => omega
            case c5 => first | omega | (simp <;> omega)
            intro v' w6 hown2 hgrow _
            have bb := below_box wr (.cells #[.int .i64 a0] 2)
            have HW6 := Lib.hid ((HW.out.alloc HW.out.size _).grown hgrow (by have := HW.out.size; simp; omega) fun g hg => by have := (HO.out.lt g hg).1; have := HGS.out; omega)
            have HO6 : Hid (w6.ownsRow (gs + 1) 2 1 v' (st ms ds S k (l.take (q + 1))).2.length ((st ms ds S k (l.take (q + 1))).2.map (Value.int .i64))) := Lib.hid (by rw [HS1.out]; simpa using hown2)
            have HS6 : Hid (SB w6 gs l.length (fun r => (st ms ds S k (l.take (q + 1))).1 (pc (lx l r)))) := Lib.hid (by
              rw [HS1.out]
              exact (HSr.out.below bb).grown hgrow (fun e => by have := (HO.out.lt _ e.symm).1; omega))
            have s6 : gs + 1 ≤ w6.heap.size := by have := hgrow.size; simp at this; omega
            clear hown2 hgrow bb b0
            go_wp2_with fail
            go_roundw
            case rel => exact ⟨q + 1, _, hq1, rfl, by go_num, HW6, s6, HO6, HS6⟩
            case measure => simp [intOf]; omega
          | succ f' =>
            obtain ⟨h1, s2', hr2, h2⟩ := hrun
            rw [h1] at b0
            obtain ⟨hxm, hxo⟩ := HM.out r hr
            have hsx := HRS.out _ _ _ _ _ (HFM.out _ hxm hxo).1 (HFM.out _ hxm hxo).2 hr2
            have hdx := HD.out _ hxm
            obtain ⟨m1, m2, m8⟩ := HPM.out _ hxm
            obtain ⟨T, hT, eT⟩ := HH.out _ (HFM.out _ hxm hxo).1 (HFM.out _ hxm hxo).2
            have CFx := Lib.hid (CF.out _ hxm hxo)
            unfold PlAt at CFx
            rw [← eT] at CFx hr2
            clear eT
            have HSs : Hid (SB (wr.setCell ⟨gs, r, none⟩ (.bool true)) gs l.length (fun i => Vg.ct C (lx l r) (pc (lx l i)))) := Lib.hid (sb_congr (HSr.out.set hr) fun i hi => by
              unfold Vg.ct
              by_cases e : i = r
              · subst e; simp
              · have : pc (lx l i) ≠ pc (lx l r) := fun e' => e (HJ.out i r hi hr e')
                simp [e, this])
            have HW4 := Lib.hid (HW.out.setCell (p := ⟨gs, r, none⟩) (by have := HGS.out; show w1.heap.size ≤ gs; omega) (.bool true))
            have HO4 := Lib.hid (Pr2.row_set HO.out (b := gs) (by omega) r (.bool true))
            have s4 : gs + 1 ≤ (wr.setCell ⟨gs, r, none⟩ (.bool true)).heap.size := by simpa using hsz
            go_upto_region 12 with fail
            clear b0 bf bl HSr HW HO hsz
            generalize wr.setCell ⟨gs, r, none⟩ (.bool true) = w4 at HSs HW4 HO4 s4 ⊢
            have HXr := Lib.hid (HX.out.below (below_then HB1.out HW4.out))
            obtain ⟨As, cs, hR⟩ := HXr.out.pat.pcs
            obtain ⟨bp, op, rfl, hbp, hc⟩ := hR.out (by omega)
            have u1 := (hc _ m1).2
            obtain ⟨ba, oa, eA, hba, hca⟩ := hR.inn _ m1 (by omega)
            have v1 := hca _ m2
            rw [eA] at u1
            obtain ⟨x0, _, _⟩ := blk3 HXr.out.blk
            obtain ⟨gb, rfl, t0, t1, t2⟩ := HRD.out _ HW4.out r hr
            clear hR hc hca eA
            generalize ms (lx l r).1 = mx at *
            generalize cs (lx l r).1 = cx at *
            generalize ds (lx l r).1 (lx l r).2 = dx at *
            generalize hxe : lx l r = xe at *
            have n1 : (0 : Int) ≤ (xe.1 : Int) := Int.natCast_nonneg _
            have n2 : (0 : Int) ≤ (xe.2 : Int) := Int.natCast_nonneg _
            have l1 : (xe.1 : Int) < (n : Int) := by omega
            have l2 : (xe.2 : Int) < (mx : Int) := by omega
            obtain ⟨d1a, d1b⟩ := hdx
            have x0' := bey_cell x0
            have u1' := bey_cell u1
            have v1' := bey_cell v1
            have t0' := bey_cell t0
            have t1' := bey_cell t1
            have t2' := bey_cell t2
            refine wp_region_below (by kernel_rfl) (by kernel_rfl) ?_
            repeat (go_big_quiet_step (fail))
            refine wpQuiet_nil ?_
            rintro _ ⟨pq, rfl⟩
            have HW5 := Lib.hid (below_then HW4.out pq.h)
            have HO5 := Lib.hid (Ge.row_below HO4.out pq.h)
            have HS5 := Lib.hid (HSs.out.below pq.h)
            have s5 : gs + 1 ≤ pq.to.heap.size := Nat.le_trans s4 pq.h.size
            generalize pq.to = w5 at HW5 HO5 HS5 s5 ⊢
            clear x0 u1 v1 t0 t1 t2 x0' u1' v1' t0' t1' t2' HXr HW4 HO4 HSs s4
            go_upto_region 13 with fail
            obtain ⟨gb', eg', t0, t1, t2⟩ := HRD.out _ HW5.out r hr
            cases eg'
            rw [hxe] at t1 t2
            have t0' := bey_cell t0
            have t1' := bey_cell t1
            have t2' := bey_cell t2
            refine wp_region_below (by kernel_rfl) (by kernel_rfl) ?_
            repeat (go_big_quiet_step (first | (go_at_call 162; with_reducible exact bey_of _ (CFx.out _ (HX.out.below (below_then HB1.out (below_then HW5.out (Beyond.h _)))))) ))
            refine wpQuiet_nil ?_
            rintro _ ⟨pr, rfl⟩
            have HW6 := Lib.hid (below_then HW5.out pr.h)
            have HO6 := Lib.hid (Ge.row_below HO5.out pr.h)
            have HS6 := Lib.hid (HS5.out.below pr.h)
            have s6 : gs + 1 ≤ pr.to.heap.size := Nat.le_trans s5 pr.h.size
            generalize pr.to = w6 at HW6 HO6 HS6 s6 ⊢
            clear t0 t1 t2 t0' t1' t2' HW5 HO5 HS5 s5 CFx
            have hTp : Hid (∀ j, j < l.length → (lx l j).1 = (lx l T).1 → (lx l j).2 = (lx l T).2 → j = T) := Lib.hid fun j hj h1 h2 => HJ.out j T hj hT (by unfold pc; rw [h1, h2])
            go_wp2_with fail
            go_loop [8, 11] (fun kk j => ∃ q' : Nat, q' ≤ l.length ∧ j = .int .i64 (q' : Int) ∧ kk = .int .i64 ((if T < q' then T else r : Nat) : Int)) (fun _ j => l.length - (intOf j).toNat)
            case atStart => exact ⟨0, Nat.zero_le _, rfl, by rw [if_neg (by omega)]⟩
            case round =>
              obtain ⟨q', hq', rfl, rfl⟩ := hrel
              have k0 : (0 : Int) ≤ (q' : Int) := Int.natCast_nonneg _
              by_cases hlq : q' < l.length
              · have k1 : (q' : Int) < (l.length : Int) := by omega
                have hq2 : q' + 1 ≤ l.length := by omega
                obtain ⟨gb', eg', t0, t1, t2⟩ := HRD.out _ HW6.out q' hlq
                cases eg'
                by_cases eT : q' = T
                · subst eT
                  go_wp2_with fail
                  go_round
                  case rel => exact ⟨q' + 1, hq2, by go_num, by rw [if_pos (by omega)]⟩
                  case measure => simp [intOf]; omega
                · have hifs : (if T < q' + 1 then T else r) = (if T < q' then T else r) := by
                    by_cases h : T < q'
                    · rw [if_pos h, if_pos (by omega)]
                    · rw [if_neg h, if_neg (by omega)]
                  obtain ⟨k8, hk8⟩ : ∃ k8, k8 = (if T < q' then T else r) := ⟨_, rfl⟩
                  rw [← hk8] at hifs ⊢
                  clear hk8
                  have hifs := Lib.hid hifs
                  by_cases c1 : (lx l q').1 = (lx l T).1
                  · have c2 : (((lx l q').2 : Int) == ((lx l T).2 : Int)) = false := by
                      have : ¬ ((lx l q').2 : Int) = ((lx l T).2 : Int) := fun h => eT (hTp.out q' hlq c1 (by omega))
                      simpa using this
                    rw [c1] at t1
                    go_wp2_with fail
                    go_round
                    case rel => exact ⟨q' + 1, hq2, by go_num, by rw [hifs.out]⟩
                    case measure => simp [intOf]; omega
                  · have c2 : (((lx l q').1 : Int) == ((lx l T).1 : Int)) = false := by
                      have : ¬ ((lx l q').1 : Int) = ((lx l T).1 : Int) := fun h => c1 (by omega)
                      simpa using this
                    go_wp2_with fail
                    go_round
                    case rel => exact ⟨q' + 1, hq2, by go_num, by rw [hifs.out]⟩
                    case measure => simp [intOf]; omega
              · have hqe : q' = l.length := by omega
                have k1 : ¬ (q' : Int) < (l.length : Int) := by omega
                rw [hqe, if_pos hT]
                go_wp2_with fail
                go_roundg f'
                case measure => omega
                case rel => exact ⟨T, _, s2', _, hT, by go_num, rfl, hr2, by omega, by omega, HW6, s6, HO6, HS6⟩
    · have hqe : q = l.length := by omega
      have e1 : ¬ (q : Int) < (l.length : Int) := by omega
      rw [hqe, HSE.out] at HO
      have HZ := Lib.hid (HQ.out _ _ _ HO.out (by have := hgs0.out; omega) (below_then HB1.out (by have := HW.out; exact this)))
      clear hqe HQ
      go_wp2_with fail
      exact HZ.out
end Go.Proofs.Ytpmmfalpcooenab.Vj
