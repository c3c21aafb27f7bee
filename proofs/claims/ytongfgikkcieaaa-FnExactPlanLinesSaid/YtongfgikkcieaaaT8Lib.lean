/- Hides: the program's layoutOf, where nothing is wrong with the arguments. -/
import Derived.Test.YtongfgikkcieaaaT7Lib
namespace Go.Proofs.Ytongfgikkcieaaa.T8
set_option linter.unusedVariables false
open Go.RowKit Ft Is Ge Qb Hd Ts H2 H5 H6 T1 T2 T3 T4 T5 T6 T7
open Go.Proofs.Ytongfgikkcieaaa.Nm (byt byt_of)

/-- What stays while pieces are laid: all that lay before, the result's box, the hide's, the pieces' fields, the layout. -/
structure Lw (w wr : World) (h P L : Nat) (o q : Obj) (pa la : Array Value) : Prop where
  hb : Hb w wr h o q
  pcs : wr.heap[P]? = some (.cells pa 71 (0, 0))
  lay : wr.heap[L]? = some (.cells la 95 (0, 0))
  hP : h < P
  hL : h < L
  ne : P ≠ L
theorem Lw.below {w wr w' : World} {h P L : Nat} {o q : Obj} {pa la : Array Value} (H : Lw w wr h P L o q pa la) (hb : Below wr.heap.size wr w') : Lw w w' h P L o q pa la :=
  ⟨H.hb.below hb, blk_keep hb H.pcs, blk_keep hb H.lay, H.hP, H.hL, H.ne⟩
theorem Lw.setP {w wr : World} {h P L : Nat} {o q : Obj} {pa la : Array Value} (H : Lw w wr h P L o q pa la) (i : Nat) (u : Value) : Lw w (wr.setCell ⟨P, i, none⟩ u) h P L o q (pa.setIfInBounds i u) la := by
  have h1 := H.hb.hg
  have h2 := H.hP
  have h3 := H.ne
  refine ⟨⟨H.hb.bel.setCell (p := ⟨P, i, none⟩) (by show w.heap.size ≤ P; omega) u, ?_, ?_, h1⟩, heap_set H.pcs i u, ?_, H.hP, H.hL, H.ne⟩
  · exact (Below.heap_setCell _ _ _ _ (by show w.heap.size ≠ P; omega)).trans H.hb.res
  · exact (Below.heap_setCell _ _ _ _ (by show h ≠ P; omega)).trans H.hb.box
  · exact (Below.heap_setCell _ _ _ _ (by show L ≠ P; omega)).trans H.lay
theorem Lw.setL {w wr : World} {h P L : Nat} {o q : Obj} {pa la : Array Value} (H : Lw w wr h P L o q pa la) (i : Nat) (u : Value) : Lw w (wr.setCell ⟨L, i, none⟩ u) h P L o q pa (la.setIfInBounds i u) := by
  have h1 := H.hb.hg
  have h2 := H.hL
  have h3 := H.ne
  refine ⟨⟨H.hb.bel.setCell (p := ⟨L, i, none⟩) (by show w.heap.size ≤ L; omega) u, ?_, ?_, h1⟩, ?_, heap_set H.lay i u, H.hP, H.hL, H.ne⟩
  · exact (Below.heap_setCell _ _ _ _ (by show w.heap.size ≠ L; omega)).trans H.hb.res
  · exact (Below.heap_setCell _ _ _ _ (by show h ≠ L; omega)).trans H.hb.box
  · exact (Below.heap_setCell _ _ _ _ (by show P ≠ L; omega)).trans H.pcs
theorem Lw.drew {w wr : World} {h P L : Nat} {o q : Obj} {pa la : Array Value} (H : Lw w wr h P L o q pa la) : Lw w wr.drew h P L o q pa la := ⟨H.hb.drew, H.pcs, H.lay, H.hP, H.hL, H.ne⟩
theorem info_fields : (Try.prog.info? 71).map (fun i => (i.zero, i.size, i.bytes)) = some (some (.int .u64 0), 1, 8) := by kernel_rfl
theorem made_arr (m : Nat) : madeCells #[.int .u64 0] m = arr m (fun _ => 0) := by
  unfold madeCells arr
  apply Array.ext_getElem?
  intro i
  rw [Array.getElem?_map]
  by_cases hi : i < m
  · simp [hi, Nat.mod_one]
  · simp [hi]
theorem arr_congr {k : Nat} {h h' : Nat → Nat} (e : ∀ i, i < k → h i = h' i) : arr k h = arr k h' := by
  unfold arr
  congr 1
  apply List.map_congr_left
  intro i hi
  rw [e i (List.mem_range.1 hi)]
abbrev laA (n C : Int) (s : ByteArray) (a b c d : Nat) (P : Nat) (k : Nat) (u : Nat) (fa : Int) : Array Value := #[.int .i64 n, .int .i64 C, .string s, .int .u64 (a : Int), .int .u64 (b : Int), .int .u64 (c : Int), .int .u64 (d : Int), .slice (some ⟨P, 0, none⟩) k k, .int .u64 (u : Int), .int .i64 fa]
theorem lw_one {w w4 : World} {bh : Nat} {o q : Obj} (H : Hb w w4 bh o q) (pa la : Array Value) : Lw w ((w4.alloc (.cells pa 71 (0, 0))).alloc (.cells la 95 (0, 0))).drew bh w4.heap.size (w4.heap.size + 1) o q pa la := by
  have hl := lt_of_heap H.box
  have h1 := H.below (below_box w4 (.cells pa 71 (0, 0)))
  have h2 := h1.below (below_box (w4.alloc (.cells pa 71 (0, 0))) (.cells la 95 (0, 0)))
  refine ⟨h2.drew, ?_, ?_, hl, by omega, by omega⟩
  · exact blk_old _ (heap_alloc_new w4 _)
  · have := heap_alloc_new (w4.alloc (.cells pa 71 (0, 0))) (.cells la 95 (0, 0))
    rwa [World.size_alloc] at this
theorem lw_two {w w4 : World} {bh : Nat} {o q : Obj} (H : Hb w w4 bh o q) (pa la : Array Value) : Lw w ((w4.alloc (.cells la 95 (0, 0))).alloc (.cells pa 71 (0, 0))).drew bh (w4.heap.size + 1) w4.heap.size o q pa la := by
  have hl := lt_of_heap H.box
  have h1 := H.below (below_box w4 (.cells la 95 (0, 0)))
  have h2 := h1.below (below_box (w4.alloc (.cells la 95 (0, 0))) (.cells pa 71 (0, 0)))
  refine ⟨h2.drew, ?_, ?_, by omega, hl, by omega⟩
  · have := heap_alloc_new (w4.alloc (.cells la 95 (0, 0))) (.cells pa 71 (0, 0))
    rwa [World.size_alloc] at this
  · exact blk_old _ (heap_alloc_new w4 _)

set_option maxRecDepth 100000 in
set_option maxHeartbeats 4000000 in
theorem lay_ok (A : Option Addr) (n c : Nat) (f : Nat → ByteArray) (G : Option Addr) (k gc : Nat) (g : Nat → Int) (P : Option Addr) (m pc : Nat) (p : Nat → Int) (hn : n ≤ 1048576) (hs : ∀ i, i < n → (f i).size ≤ 1048576) (hk : k ≤ 1048576) (hm : m ≤ 1048576) (hcap : n ≤ c) (w : World) (h : H6.Ask w A n f G k g P m p) (hgood : plC n f k g m p = 0) :
    Calls Try.prog 76 #[.slice A n c, .slice G k gc, .slice P m pc] w (LyAt n f k g m p w) := by
  have CW := Lib.hid (fun W (hb : Below w.heap.size w W) => ihide A n c f hn hs hcap W ((h.rows.below hb (Nat.le_refl _)).more hb.size))
  unfold HoAt at CW
  obtain ⟨hH, hCu, hFi, rfl⟩ := plc_ok hgood
  have hal := hide_al hH
  have hC := hal.2.2
  have hn6 := hal.2.1
  have hjs := jn_size hal.1
  have h36 := size_36 hn6.2 hC.2
  have hsz36 : (jnS f n).size ≤ 36 := by rw [hjs]; exact h36
  have hk4 := hCu.2
  have HCU := Lib.hid hCu
  have HFI := Lib.hid hFi
  have VC := Lib.hid (fun W (hb : Below w.heap.size w W) => impl_vc G m gc g hk W ((h.cuts.below hb (Nat.le_refl _)).more hb.size))
  have AL := Lib.hid (fun W (hb : Below w.heap.size w W) => Ly.are_any (-1) (((jnS f n).size : Int) - 1) P m pc p hm W ((h.plan.below hb (Nat.le_refl _)).more hb.size))
  rw [tv_yes ((fields_al hjs).1 hFi)] at AL
  rw [tv_yes hCu] at VC
  rw [hv_yes hH, tv_yes hH] at CW
  have CO := Lib.hid (fun w => Ba.arg_ok w)
  have BX := Lib.hid (below_box w lyZo)
  have KX := Lib.hid (heap_alloc_new w lyZo)
  have GG := Lib.hid (fun (Q : Int) => gd_64 (qf f) Q hn6.2 hC.2)
  have FI := Lib.hid (fun (W H : Nat) (Q : Int) (t : Nat) (ht : t < n * (f 0).size) (hW : 1 ≤ W) (hc : t % (f 0).size + W ≤ (f 0).size) => fit_iff (qf f) W H Q t hn6.2 hC ht hW hc)
  have HH := Lib.hid h
  have END : Hid (∀ W u fa Pb, flI n f g p m = fa → Below w.heap.size w W → w.heap.size ≤ Pb → (fa = -1 → u = usN (f 0).size g p m ∧ W.heap[Pb]? = some (pcO m (foP (f 0).size g p))) → LyAt n f m g m p w (.returned (.tuple #[lyV n (f 0).size (jnS f n) (gdN n (f 0).size (qf f) 0) (gdN n (f 0).size (qf f) 1) (gdN n (f 0).size (qf f) 2) (gdN n (f 0).size (qf f) 3) (.slice (some ⟨Pb, 0, none⟩) m m) u fa, .int .i64 0])) W) := Lib.hid fun W u fa Pb hf hb hP hx => .inr ⟨hgood, Pb, u, by rw [hf], hb, hP, by rw [hf]; exact hx⟩
  have FN : Hid ((∀ j, j < m → ¬ WrongP n (f 0).size (qf f) g p j) → flI n f g p m = -1) := Lib.hid fun h => ff_none fun j hj => tv_no (h j hj)
  have FA : Hid (∀ i, i < m → WrongP n (f 0).size (qf f) g p i → (∀ j, j < i → ¬ WrongP n (f 0).size (qf f) g p j) → flI n f g p m = (i : Int)) := Lib.hid fun i hi h1 h2 => ff_at hi (tv_yes h1) fun j hj => tv_no (h2 j hj)
  generalize flI n f g p m = fl at END FN FA
  have WI := Lib.hid (fun (i : Nat) (hi : i < m) hb h0 => wrong_iff (n := n) (C := (f 0).size) (q := qf f) (g := g) (p := p) (i := i) hn6.2 hC (fun j hj => by have := cu_in (hCu.1 j (by omega)); omega) hb h0)
  have FL := Lib.hid (fun (i : Nat) (hi : i < m) h0 => H6.field_lt h0 (hFi i hi))
  have CI := Lib.hid (fun (i : Nat) (hi : i < m) => cu_in (hCu.1 i hi))
  have PN := Lib.hid (fun (i : Nat) (hi : i < m) => Ba.in_of (hFi i hi))
  generalize hg0 : gdN n (f 0).size (qf f) 0 = g0 at CW END
  generalize hg1 : gdN n (f 0).size (qf f) 1 = g1 at CW END
  generalize hg2 : gdN n (f 0).size (qf f) 2 = g2 at CW END
  generalize hg3 : gdN n (f 0).size (qf f) 3 = g3 at CW END
  have HG := Lib.hid (And.intro hg0 (And.intro hg1 (And.intro hg2 hg3)))
  generalize hS : jnS f n = S at CW AL END hsz36
  generalize hD : (f 0).size = D at CW hC END FN FA WI FL FI GG
  have HS := Lib.hid hS
  have HD := Lib.hid hD
  have IS := Lib.hid (fun w => isize n D S g0 g1 g2 g3 w)
  have HBX := Lib.hid (fun w => below_box w (bx0 n D S g0 g1 g2 g3))
  have e1 : decide (m = m) = true := by simp
  have HG1 : Hid (gdN n D (qf f) 1 = g1 ∧ gdN n D (qf f) 2 = g2 ∧ gdN n D (qf f) 3 = g3) := Lib.hid ⟨by rw [← hD]; exact hg1, by rw [← hD]; exact hg2, by rw [← hD]; exact hg3⟩
  have H36 : Hid (n * D ≤ 36) := Lib.hid (by rw [← hD]; exact h36)
  clear h hn hs hg0 hg1 hg2 hg3 hS hD hH hCu hFi hal hjs h36 hgood HG HS HD HCU HFI
  generalize LyAt n f m g m p w = POST at END ⊢
  go_enter Try.func76, Try.ntmps76
  go_upto_region 1 with fail
  generalize hw0 : w.alloc _ = w0 at BX KX ⊢
  clear hw0
  have C0 := Lib.hid (CW.out w0 BX.out)
  go_wp2_with fail
  refine C0.out.mono ?_
  rintro e w1 ⟨rfl, b1⟩
  have HBB : Hid (Hb w (w1.alloc (bx0 n D S g0 g1 g2 g3)) w1.heap.size lyZo (bx0 n D S g0 g1 g2 g3)) := Lib.hid ⟨below_then BX.out (below_then b1 (HBX.out w1)), blk_old (bx0 n D S g0 g1 g2 g3) (blk_keep b1 KX.out), heap_alloc_new _ _, by have := lt_of_heap (blk_keep b1 KX.out); exact this⟩
  clear b1 C0 HBX CW BX KX
  have VC1 := Lib.hid (fun W (hb : Hb w W w1.heap.size lyZo (bx0 n D S g0 g1 g2 g3)) => VC.out W hb.bel)
  have AL1 := Lib.hid (fun W (hb : Hb w W w1.heap.size lyZo (bx0 n D S g0 g1 g2 g3)) => AL.out W hb.bel)
  go_wp2_with fail
  generalize hw2 : w1.alloc _ = w2 at HBB ⊢
  clear hw2
  generalize w1.heap.size = bh at HBB VC1 AL1 ⊢
  refine (IS.out _).mono ?_
  rintro e w3 ⟨rfl, b3⟩
  have HB3 := Lib.hid (HBB.out.below b3)
  clear b3 HBB IS
  have AL2 := Lib.hid (AL1.out _ HB3.out)
  go_wp2_with fail
  refine AL2.out.mono ?_
  rintro e w' ⟨rfl, rfl⟩
  have VC2 := Lib.hid (VC1.out _ HB3.out)
  go_wp2_with fail
  refine VC2.out.mono ?_
  rintro e w4 ⟨rfl, b4⟩
  have HB4 := Lib.hid (HB3.out.below b4)
  clear b4 HB3 AL AL1 AL2 VC VC1 VC2
  go_wp2_with fail
  refine (CO.out _).mono ?_
  rintro e w' ⟨rfl, rfl⟩
  clear CO
  obtain ⟨a0, a1, a2, a3, a4, a5, a6⟩ := blk7 HB4.out.box
  go_upto_region 6 with fail
  obtain ⟨i0, hi, hz0, hz1, hz2⟩ := info_parts info_fields
  have hmk := fun w => run_make w _ _ i0 _ Try.underlying93 hi hz0 .i64 .i64 m m (by omega) (by omega) (by rw [hz2]; omega) (by omega)
  have hbh := lt_of_heap HB4.out.box
  go_cut [12] (fun z wx => ∃ Pb L, z = .pointer (some ⟨L, 0, none⟩) ∧ Hid (Lw w wx bh Pb L lyZo (bx0 n D S g0 g1 g2 g3) (arr m (fun _ => 0)) (laA n D S g0 g1 g2 g3 Pb m 0 (-1))))
  case first =>
    go_region
    all_goals
      go_wp2_with fail
      go_meet
      rw [made_arr]
      first
        | exact ⟨w4.heap.size, w4.heap.size + 1, rfl, Lib.hid (lw_one HB4.out _ _)⟩
        | exact ⟨w4.heap.size + 1, w4.heap.size, rfl, Lib.hid (lw_two HB4.out _ _)⟩
  case rest =>
    obtain ⟨Pb, L, rfl, HL⟩ := hcut
    clear a0 a1 a2 a3 a4 a5 a6 HB4 hbh hmk hi hz0 hz1 hz2
    go_wp2_with fail
    go_loopw [52] (fun x wr => ∃ j : Nat, j ≤ m ∧ x = .int .i64 (j : Int) ∧ Hid (Lw w wr bh Pb L lyZo (bx0 n D S g0 g1 g2 g3) (arr m (fun i => if i < j then foP D g p i else 0)) (laA n D S g0 g1 g2 g3 Pb m (usN D g p j) (-1))) ∧ Hid (∀ i, i < j → ¬ WrongP n D (qf f) g p i)) (fun x _ => m - (intOf x).toNat)
    case atStart => exact ⟨0, Nat.zero_le _, rfl, Lib.hid (by
      have := HL.out
      rw [arr_congr (h' := fun i => if i < 0 then foP D g p i else 0) fun i hi => by rw [if_neg (by omega)]] at this
      exact this), Lib.hid fun i hi => by omega⟩
    case round =>
      obtain ⟨j, hj, rfl, HX, HN⟩ := hrel
      have j0 : (0 : Int) ≤ (j : Int) := Int.natCast_nonneg _
      by_cases hlt : j < m
      · have j1 : (j : Int) < (m : Int) := by omega
        have hj1 : j + 1 ≤ m := by omega
        have HHr := Lib.hid (HH.out.below HX.out.hb.bel)
        obtain ⟨bp, op, rfl, hbp, hcp⟩ := HHr.out.plan (by omega)
        obtain ⟨bg, og, rfl, hbg, hcg⟩ := HHr.out.cuts (by omega)
        have x0 := hcp j hlt
        obtain ⟨y0, y1, y2, y3⟩ := Cut.cells_at hcg hlt
        have hpn := PN.out j hlt
        have hci := CI.out j hlt
        have hfl := Lib.hid (FL.out j hlt)
        have hwi := Lib.hid (WI.out j hlt HN.out)
        have hfa := Lib.hid (fun h => FA.out j hlt h HN.out)
        have US : usN D g p (j + 1) = usN D g p j ||| foP D g p j := rfl
        have HNX : Hid (¬ WrongP n D (qf f) g p j → ∀ i, i < j + 1 → ¬ WrongP n D (qf f) g p i) := Lib.hid fun h i hi => by
          by_cases e : i = j
          · subst e; exact h
          · exact HN.out i (by omega)
        have AR : Hid (arr m (fun i => if i = j then foP D g p j else if i < j then foP D g p i else 0) = arr m (fun i => if i < j + 1 then foP D g p i else 0)) := Lib.hid (arr_congr fun i hi => by
          by_cases e : i = j
          · subst e; rw [if_pos rfl, if_pos (by omega)]
          · rw [if_neg e]
            by_cases l : i < j
            · rw [if_pos l, if_pos (by omega)]
            · rw [if_neg l, if_neg (by omega)])
        clear hcp hcg hbp hbg
        by_cases hneg : p j < 0
        · have hm1 : p j = -1 := by omega
          have hfz : foP D g p j = 0 := by unfold foP; rw [if_pos hneg]
          have hnw : ¬ WrongP n D (qf f) g p j := fun e => by have := e.1; omega
          have HND := Lib.hid (HNX.out hnw)
          have HXD : Hid (Lw w wr bh Pb L lyZo (bx0 n D S g0 g1 g2 g3) (arr m (fun i => if i < j + 1 then foP D g p i else 0)) (laA n D S g0 g1 g2 g3 Pb m (usN D g p (j + 1)) (-1))) := Lib.hid (by
            have h1 := HX.out
            rw [US, hfz, Nat.or_zero, ← AR.out]
            rw [arr_congr (h' := fun i => if i = j then foP D g p j else if i < j then foP D g p i else 0) fun i hi => by
              by_cases e : i = j
              · subst e; rw [if_neg (by omega), if_pos rfl, hfz]
              · rw [if_neg e]] at h1
            exact h1)
          rw [hm1] at x0
          clear HX HN hfl hwi hfa HNX AR US hneg hpn hnw hfz hm1
          go_wp2_with fail
          go_roundw
          case rel => exact ⟨j + 1, hj1, by go_num, HXD, HND⟩
          case measure => simp [intOf]; omega
        obtain ⟨t, ht, htl⟩ := hfl.out (by omega)
        have hwi := Lib.hid (hwi.out (by omega))
        obtain ⟨W, hW⟩ : ∃ W : Nat, g (j * 4) = (W : Int) := ⟨(g (j * 4)).toNat, by omega⟩
        obtain ⟨H, hH⟩ : ∃ H : Nat, g (j * 4 + 1) = (H : Int) := ⟨(g (j * 4 + 1)).toNat, by omega⟩
        have hfo : foP D g p j = foN D W H t := by
          unfold foP
          rw [if_neg (by omega), hW, hH, ht, Int.toNat_natCast, Int.toNat_natCast, Int.toNat_natCast]
        rw [ht, hW, hH, Int.toNat_natCast, hfo] at hwi
        rw [ht] at x0
        rw [hW] at y0 hci
        rw [hH] at y1 hci
        rw [hfo] at US AR
        have h36 := H36.out
        have hcol : t % D < D := Nat.mod_lt _ (by omega)
        obtain ⟨GV, hGV, hQc⟩ : ∃ GV, GV = gdN n D (qf f) (g (j * 4 + 2)) ∧ ((g (j * 4 + 2) = 1 ∧ GV = g1) ∨ (g (j * 4 + 2) = 2 ∧ GV = g2) ∨ (g (j * 4 + 2) = 3 ∧ GV = g3)) := by
          refine ⟨_, rfl, ?_⟩
          obtain ⟨q1, q2, q3⟩ := HG1.out
          have hq : g (j * 4 + 2) = 1 ∨ g (j * 4 + 2) = 2 ∨ g (j * 4 + 2) = 3 := by omega
          rcases hq with q | q | q
          · rw [q]; exact .inl ⟨rfl, q1⟩
          · rw [q]; exact .inr (.inl ⟨rfl, q2⟩)
          · rw [q]; exact .inr (.inr ⟨rfl, q3⟩)
        have CF := Lib.hid (fun w => ifo n D S g0 g1 g2 g3 W H (g (j * 4 + 2)) (g (j * 4 + 3)) t GV hC (by omega) (by omega) (by omega) (by rw [hGV]; exact GG.out _) hQc w)
        have hbb : (decide (t % D + W ≤ D) && decide (pcN D W t H &&& (18446744073709551615 - GV) = 0)) = tv (FitP n D (qf f) (W : Int) (H : Int) (g (j * 4 + 2)) t) := by
          by_cases q : t % D + W ≤ D
          · rw [decide_eq_true q, Bool.true_and, hGV]
            by_cases q2 : FitP n D (qf f) (W : Int) (H : Int) (g (j * 4 + 2)) t
            · rw [tv_yes q2, decide_eq_true ((FI.out W H _ t htl (by omega) q).2 q2)]
            · rw [tv_no q2, decide_eq_false fun e => q2 ((FI.out W H _ t htl (by omega) q).1 e)]
          · rw [decide_eq_false q, Bool.false_and, tv_no fun e => q (by have := e.2.1; omega)]
        rw [hbb] at CF
        have CM := Lib.hid (fun w => imeets (foN D W H t) (usN D g p j) (fo_64 D W H t) (us_64 D g p j) w)
        have BO : bits .or .u64 (usN D g p j : Int) (foN D W H t : Int) = (usN D g p (j + 1) : Int) := by
          rw [US]
          exact bits_or_u64_nat _ _ (us_64 D g p j) (fo_64 D W H t)
        have hwY : Hid (tv (FitP n D (qf f) (W : Int) (H : Int) (g (j * 4 + 2)) t) = false → WrongP n D (qf f) g p j) := Lib.hid fun e => hwi.out.2 (.inl fun q => by rw [tv_yes q] at e; cases e)
        have hwZ : Hid (decide (¬ foN D W H t &&& usN D g p j = 0) = true → WrongP n D (qf f) g p j) := Lib.hid fun e => hwi.out.2 (.inr (of_decide_eq_true e))
        have hwN : Hid (tv (FitP n D (qf f) (W : Int) (H : Int) (g (j * 4 + 2)) t) = true → decide (¬ foN D W H t &&& usN D g p j = 0) = false → ¬ WrongP n D (qf f) g p j) := Lib.hid fun e1 e2 q => by
          rcases hwi.out.1 q with q | q
          · exact q (tv_iff.1 e1)
          · exact of_decide_eq_false e2 q
        have FV : Hid (∀ wv, Lw w wv bh Pb L lyZo (bx0 n D S g0 g1 g2 g3) (arr m (fun i => if i < j then foP D g p i else 0)) (laA n D S g0 g1 g2 g3 Pb m (usN D g p j) (-1)) → wv.cell? ⟨Pb, j, none⟩ = some (.int .u64 0)) := Lib.hid fun wv hv => by
          rw [cell_of_row _ _ j _ _ _ hv.pcs, arr_get _ hlt, if_neg (by omega)]
          rfl
        have SETP : Hid (∀ wv, Lw w wv bh Pb L lyZo (bx0 n D S g0 g1 g2 g3) (arr m (fun i => if i < j then foP D g p i else 0)) (laA n D S g0 g1 g2 g3 Pb m (usN D g p j) (-1)) → Lw w ((wv.setCell ⟨Pb, j, none⟩ (.int .u64 (foN D W H t : Int))).setCell ⟨L, 8, none⟩ (.int .u64 (usN D g p (j + 1) : Int))) bh Pb L lyZo (bx0 n D S g0 g1 g2 g3) (arr m (fun i => if i < j + 1 then foP D g p i else 0)) (laA n D S g0 g1 g2 g3 Pb m (usN D g p (j + 1)) (-1))) := Lib.hid fun wv hv => by
          have h1 := hv.setP j (.int .u64 (foN D W H t : Int))
          rw [arr_set _ hlt, AR.out] at h1
          exact h1.setL 8 (.int .u64 (usN D g p (j + 1) : Int))
        generalize tv (FitP n D (qf f) (W : Int) (H : Int) (g (j * 4 + 2)) t) = bb at CF hwY hwN
        generalize decide (¬ foN D W H t &&& usN D g p j = 0) = mm at CM hwZ hwN
        generalize g (j * 4 + 2) = Q at y2 CF hQc
        generalize g (j * 4 + 3) = dd at y3 CF
        generalize foN D W H t = fo at CF CM BO SETP
        generalize hu1 : usN D g p (j + 1) = u1 at BO SETP
        have HU1 := Lib.hid hu1
        clear hu1
        clear hwi hfl hfo hW hH ht hGV hQc hci hpn hneg US AR hbb hcol HHr
        obtain ⟨a0, a1, a2, a3, a4, a5, a6⟩ := blk7 HX.out.hb.box
        have a0 := bey_cell a0
        have a1 := bey_cell a1
        have a2 := bey_cell a2
        have a3 := bey_cell a3
        have a4 := bey_cell a4
        have a5 := bey_cell a5
        have a6 := bey_cell a6
        have x0b := bey_cell x0
        have y0 := bey_cell y0
        have y1 := bey_cell y1
        have y2 := bey_cell y2
        have y3 := bey_cell y3
        have CFb := Lib.hid (fun q : Beyond wr => CF.out q.to)
        go_upto_region 11 with fail
        refine wp_region_below (by kernel_rfl) (by kernel_rfl) ?_
        repeat (go_big_quiet_step ((go_at_call 99; with_reducible exact bey_of _ (CFb.out _))))
        refine wpQuiet_nil ?_
        rintro _ ⟨pq, rfl⟩
        have HQ := Lib.hid (HX.out.below pq.h)
        generalize pq.to = wq at HQ ⊢
        clear a0 a1 a2 a3 a4 a5 a6 x0 x0b y0 y1 y2 y3 CF CFb
        obtain ⟨l0, l1, l2, l3, l4, l5, l6, l7, l8, l9⟩ := blk10 HQ.out.lay
        cases bb
        · have hflt := hfa.out (hwY.out (by first | rfl | trivial))
          clear CM
          have lf := free_row HQ.out.lay
          obtain ⟨z0, z1, z2, z3, z4, z5, z6, z7, z8, z9⟩ := blk10 HQ.out.hb.res
          have zf := free_row HQ.out.hb.res
          have H9 := Lib.hid (HQ.out.setL 9 (.int .i64 (j : Int)))
          have hLR : L ≠ w.heap.size := by have := HQ.out.hb.hg; have := HQ.out.hL; omega
          have hRL : w.heap.size ≠ L := fun e => hLR e.symm
          have hPR : w.heap.size ≤ Pb := by have := HQ.out.hb.hg; have := HQ.out.hP; omega
          clear HQ SETP FV BO HX HN HNX hwY hwZ hwN hfa
          go_wp2_with fail
          refine bodyPost_ret (v := .tuple #[lyV n D S g0 g1 g2 g3 (.slice (some ⟨Pb, 0, none⟩) m m) (usN D g p j) (j : Int), .int .i64 0]) (by simp [results, Try.results76, go_sem, z0, z1, z2, z3, z4, z5, z6, z7, z8, z9]) rfl (END.out _ _ _ Pb hflt ?_ hPR (fun e => by omega))
          exact below10 H9.out.hb.bel (Nat.le_refl _) _ _ _ _ _ _ _ _ _ _
        go_wp2_with fail
        refine (CM.out _).mono ?_
        rintro e w' ⟨rfl, rfl⟩
        clear CM
        cases mm
        · have HND := Lib.hid (HNX.out (hwN.out (by first | rfl | trivial) (by first | rfl | trivial)))
          have HS2 := Lib.hid (SETP.out _ HQ.out)
          have c0 := FV.out _ HQ.out
          have pf := free_row HQ.out.pcs
          have lf := free_row HQ.out.lay
          have hPL := HQ.out.ne
          have hLP : L ≠ Pb := fun e => hPL e.symm
          clear HQ SETP FV HX HN HNX hwY hwZ hwN hfa
          go_wp2_with fail
          go_roundw
          case rel => exact ⟨j + 1, hj1, by go_num, by rw [HU1.out]; exact HS2, HND⟩
          case measure => simp [intOf]; omega
        · have hflt := hfa.out (hwZ.out (by first | rfl | trivial))
          have lf := free_row HQ.out.lay
          obtain ⟨z0, z1, z2, z3, z4, z5, z6, z7, z8, z9⟩ := blk10 HQ.out.hb.res
          have zf := free_row HQ.out.hb.res
          have H9 := Lib.hid (HQ.out.setL 9 (.int .i64 (j : Int)))
          have hLR : L ≠ w.heap.size := by have := HQ.out.hb.hg; have := HQ.out.hL; omega
          have hRL : w.heap.size ≠ L := fun e => hLR e.symm
          have hPR : w.heap.size ≤ Pb := by have := HQ.out.hb.hg; have := HQ.out.hP; omega
          clear HQ SETP FV BO HX HN HNX hwY hwZ hwN hfa
          go_wp2_with fail
          refine bodyPost_ret (v := .tuple #[lyV n D S g0 g1 g2 g3 (.slice (some ⟨Pb, 0, none⟩) m m) (usN D g p j) (j : Int), .int .i64 0]) (by simp [results, Try.results76, go_sem, z0, z1, z2, z3, z4, z5, z6, z7, z8, z9]) rfl (END.out _ _ _ Pb hflt ?_ hPR (fun e => by omega))
          exact below10 H9.out.hb.bel (Nat.le_refl _) _ _ _ _ _ _ _ _ _ _
      · obtain rfl : j = m := by omega
        have hflt := FN.out HN.out
        obtain ⟨l0, l1, l2, l3, l4, l5, l6, l7, l8, l9⟩ := blk10 HX.out.lay
        obtain ⟨z0, z1, z2, z3, z4, z5, z6, z7, z8, z9⟩ := blk10 HX.out.hb.res
        have zf := free_row HX.out.hb.res
        have hLR : L ≠ w.heap.size := by have := HX.out.hb.hg; have := HX.out.hL; omega
        have hRL : w.heap.size ≠ L := fun e => hLR e.symm
        have hPR : w.heap.size ≤ Pb := by have := HX.out.hb.hg; have := HX.out.hP; omega
        have hPn : Pb ≠ w.heap.size := by have := HX.out.hb.hg; have := HX.out.hP; omega
        have HPP : Hid (wr.heap[Pb]? = some (pcO j (foP D g p))) := Lib.hid (by
          rw [HX.out.pcs, arr_congr (h' := foP D g p) fun i hi => by rw [if_pos hi]])
        have HBL := Lib.hid HX.out.hb.bel
        clear HX HN FN FA WI
        go_wp2_with fail
        refine bodyPost_ret (v := .tuple #[lyV n D S g0 g1 g2 g3 (.slice (some ⟨Pb, 0, none⟩) j j) (usN D g p j) (-1), .int .i64 0]) (by simp [results, Try.results76, go_sem, z0, z1, z2, z3, z4, z5, z6, z7, z8, z9]) rfl (END.out _ _ _ Pb hflt ?_ hPR (fun _ => ⟨rfl, ?_⟩))
        · exact below10 HBL.out (Nat.le_refl _) _ _ _ _ _ _ _ _ _ _
        · exact (heap10 hPn _ _ _ _ _ _ _ _ _ _).trans HPP.out
end Go.Proofs.Ytongfgikkcieaaa.T8
