/- OpenEdges: both functions. -/
import Derived.Test.YtnojnikophpnoaaVeLib
import Derived.Test.YtnojnikophpnoaaSslLib
import Derived.Deep.AppendLies
namespace Go.Proofs.Ytnojnikophpnoaa.Vp
set_option linter.unusedVariables false
open Go.RowKit Go.Maps Ft Is Ge Qb Pt Pv Za Mm Zb Zc Zd Vq Sdq Sdu Uf Ug Uh Uk Uc Uq Ux Uy Vo

/-- What the rows hold. -/
def rd (l : List (Nat × Nat)) (r q : Nat) : Int := if q = 0 then ((l.getD r (0, 0)).1 : Int) else ((l.getD r (0, 0)).2 : Int)
theorem OM.rows {w : World} {B : Nat} {v : Value} {l : List (Nat × Nat)} {G : Nat → Nat} (h : OM w B v l G) : ∃ A cap, v = .slice A l.length cap ∧ Ss2.RowsO w B A l.length (fun r => some ⟨G r, 0, none⟩) (fun _ => 2) (fun _ => 2) (rd l) ∧ ∀ b o, A = some ⟨b, o, none⟩ → B ≤ b := by
  have inn : ∀ i, i < l.length → Own w B (some ⟨G i, 0, none⟩) 2 (rd l i) := fun i hi _ => by
    obtain ⟨h1, h2⟩ := h.inn i _ (List.getElem?_eq_getElem hi)
    refine ⟨G i, 0, rfl, h2, lt_of_heap h1, fun q hq => ?_, blk_free h1⟩
    have e : l.getD i (0, 0) = l[i] := by rw [List.getD_eq_getElem?_getD, List.getElem?_eq_getElem hi]; rfl
    unfold rd
    rw [e, Nat.zero_add]
    obtain ⟨c0, c1⟩ := Pt.blk2 h1
    obtain rfl | rfl : q = 0 ∨ q = 1 := by omega
    · exact c0
    · exact c1
  have ap : ∀ i j, i < l.length → j < l.length → i ≠ j → 0 < 2 → 0 < 2 → ∀ b o b' o', (some ⟨G i, 0, none⟩ : Option Addr) = some ⟨b, o, none⟩ → (some ⟨G j, 0, none⟩ : Option Addr) = some ⟨b', o', none⟩ → b' ≠ b := fun i j hi hj hne _ _ b o b' o' e1 e2 => by
    injection e1 with e1; injection e1 with e1
    injection e2 with e2; injection e2 with e2
    rcases Nat.lt_or_gt_of_ne hne with q | q
    · have := h.apart i j q hj; omega
    · have := h.apart j i q hi; omega
  rcases h.out.2 with ⟨hv, h0⟩ | ⟨g, cap, cur, hv, hbg, hh, _⟩
  · exact ⟨none, 0, by rw [hv, h0], ⟨fun hn => by omega, inn, ap, fun i hi => by omega⟩, fun b o e => by cases e⟩
  · refine ⟨some ⟨g, 0, none⟩, cap, hv, ⟨fun hn => ⟨g, 0, rfl, lt_of_heap hh, fun i hi => ?_⟩, inn, ap, fun i hi _ b o b' o' e1 e2 => ?_⟩, fun b o e => by injection e with e; injection e with e; omega⟩
    · subst hv
      rw [Nat.zero_add]
      refine (h.out.cellAt i (by omega)).trans ?_
      simp [hi]
    · injection e1 with e1; injection e1 with e1
      injection e2 with e2; injection e2 with e2
      obtain ⟨h1, _⟩ := h.inn i _ (List.getElem?_eq_getElem hi)
      intro q
      rw [e2, q, ← e1] at hh
      rw [h1] at hh
      injection hh with hh
      injection hh with _ ht
      exact ty_ne ht
set_option maxRecDepth 100000 in
set_option maxHeartbeats 4000000 in
theorem openEdges (A : Option Addr) (n c : Nat) (N : Nat → ByteArray) (ms : Nat → Nat) (ds : Nat → Nat → Int) (Y : Option Addr) (k sc : Nat) (S : Nat → Int) (o : Int) (hz : Small n N ms k) (hP : PatP n N ms ds k S o)
    (B : Nat) (W : World) (ea : Option Addr) (el ec bm : Nat) (P : Nat × Nat → Nat) (g : Lit → Option Value) (hR : PatR W A n N ms ds Y k S) (hS : Surf B n ms ds (plc ms n) (plc ms n) (mate S k) (.slice ea el ec) bm P g W) :
    Calls Try.prog 64 #[sfV A n c Y k sc o (.slice ea el ec) bm] W fun e w' => ∃ v G, e = .returned v ∧ Hid (OM w' W.heap.size v (ol ms n S k (sumN ms n)) G) ∧ Below W.heap.size W w' := by
  obtain ⟨p1, p2, p3, p4⟩ := pat_in hP
  have p0 : 1 ≤ n := by have := hP.2.1.1; unfold inB at this; simp at this; omega
  have hm8 : ∀ i, i < n → ms i ≤ 8 := fun i hi => (p2 i hi).2
  have hE8 := sum_le hm8
  have hE1 : 0 < sumN ms n := by have := le_sum (f := ms) (show 0 < n by omega); have := (p2 0 (by omega)).1; omega
  have HS := Lib.hid hS
  obtain ⟨i0, hi0, hz0, hz1, hz2⟩ := info_parts info_rw
  have HI := Lib.hid (And.intro hi0 (And.intro hz0 (And.intro hz1 hz2)))
  have HB := Lib.hid (below_box W (suC (.slice A n c) (.slice Y k sc) (.int .i64 o) (.slice ea el ec) (.map (some bm))))
  have KB := Lib.hid (heap_alloc_new W (suC (.slice A n c) (.slice Y k sc) (.int .i64 o) (.slice ea el ec) (.map (some bm))))
  have HEG : Hid (∀ t, t < sumN ms n → eg ms n t ∈ plc ms n) := Lib.hid fun t ht => eg_mem ht
  have HOS : Hid (∀ t, ol ms n S k (t + 1) = if opB ms n S k t then ol ms n S k t ++ [eg ms n t] else ol ms n S k t) := Lib.hid fun t => rfl
  have HO0 : Hid (ol ms n S k 0 = []) := Lib.hid rfl
  have HLN : Hid (∀ t, (ol ms n S k t).length ≤ t) := Lib.hid fun t => by rw [ol_len]; exact cc_le _ _
  have hrow := hS.row
  rw [plc_len] at hrow
  obtain ⟨gr, ecap, hsl, hgr, hgl⟩ := hrow.form hE1
  injection hsl with hea hel hec
  have HRC : Hid (∀ t, t < sumN ms n → W.cell? ⟨gr, t, none⟩ = some (ptr (P (eg ms n t)))) := Lib.hid fun t ht => (by
    subst hea hel hec
    have := hrow.cellAt t (by omega)
    rw [this]
    unfold eg
    rw [List.getElem?_map, List.getD_eq_getElem?_getD, List.getElem?_eq_getElem (by rw [plc_len]; exact ht)]
    rfl)
  subst hea hel hec
  clear hrow hR hz hP p2 p3 p4 hi0 hz0 hz1 hz2 hS hm8
  generalize ol ms n S k = ls at *
  generalize hEE : sumN ms n = E at *
  unfold sfV
  go_enter Try.func64, Try.ntmps64
  go_upto_region 1 with fail
  generalize hw0 : W.alloc _ = w1 at HB KB ⊢
  clear hw0
  obtain ⟨x0, x1, x2, x3, x4⟩ := blk5 KB.out
  have lb := lt_of_heap KB.out
  go_wp2_with fail
  clear x0 x1 x2 x3 x4
  have O0 : Hid (OM w1 W.heap.size (.slice none 0 0) (ls 0) (fun _ => 0)) := Lib.hid (by
    rw [HO0.out]
    exact ⟨⟨rfl, .inl ⟨rfl, rfl⟩⟩, fun r x hx => by simp at hx, fun r s _ hs => by simp at hs⟩)
  go_loopw [3, 5, 9] (fun v _ i wr => ∃ (t : Nat) (u : Value) (G : Nat → Nat), t ≤ E ∧ u = v ∧ i = .int .i64 (t : Int) ∧ Hid (Below W.heap.size W wr) ∧ Hid (OM wr W.heap.size u (ls t) G)) (fun _ _ i _ => E - (intOf i).toNat)
  case atStart => exact ⟨0, _, _, Nat.zero_le _, rfl, rfl, HB, O0⟩
  case round =>
    clear O0 HB KB
    obtain ⟨t, v, G, ht, rfl, rfl, HW, HO⟩ := hrel
    have e0 : (0 : Int) ≤ (t : Int) := Int.natCast_nonneg _
    by_cases hlt : t < E
    · have e1 : (t : Int) < (E : Int) := by omega
      have ht1 : t + 1 ≤ E := by omega
      have r0 := (HW.out.cell (p := ⟨gr, t, none⟩) hgl).trans (HRC.out t hlt)
      unfold ptr at r0
      obtain ⟨m1, m2⟩ := mem_plc.1 (HEG.out t hlt)
      have HSr := Lib.hid (HS.out.below HW.out)
      have EG := Lib.hid (HSr.out.edg (eg ms n t) m1 m2).1
      obtain ⟨c0, c1, c2, c3, c4⟩ := blk5 EG.out
      rw [op_eq] at c4
      have CO := Lib.hid (is_open _ _ wr c4)
      rw [opA_none] at CO
      have lp := lt_of_heap EG.out
      have hop : opB ms n S k t = (mate S k (eg ms n t)).isNone := rfl
      have HOt := Lib.hid (HOS.out t)
      rw [hop] at HOt
      have HLt := Lib.hid (HLN.out t)
      have hszr := HW.out.size
      cases hmt : (mate S k (eg ms n t)).isNone with
      | false =>
        rw [hmt] at CO HOt
        rw [if_neg (by decide)] at HOt
        rw [← HOt.out] at HO
        clear c0 c1 c2 c3 c4 lp
        go_wp2_with fail
        refine CO.out.mono ?_
        rintro e w7 ⟨rfl, rfl⟩
        go_wp2_with fail
        go_roundw
        case rel => exact ⟨t + 1, _, _, ht1, rfl, by go_num, HW, HO⟩
        case measure => simp [intOf]; omega
      | true =>
        rw [hmt] at CO HOt
        rw [if_pos rfl] at HOt
        have na : some (P (eg ms n t)) ≠ v.ownBlock := own_neT HO.out.out EG.out (by decide)
        clear c2 c3 c4
        generalize hpe : P (eg ms n t) = pe at c0 c1 lp na r0 CO
        generalize eg ms n t = xe at *
        generalize ls t = l at HO HOt HLt
        have hll := HLt.out
        go_wp2_with fail
        refine CO.out.mono ?_
        rintro e w7 ⟨rfl, rfl⟩
        clear EG HSr CO r0
        go_upto_region 6 with fail
        have B1 := below_box wr (.cells #[.int .i64 (xe.1 : Int), .int .i64 (xe.2 : Int)] 2)
        have B2 := below_box (wr.alloc (.cells #[.int .i64 (xe.1 : Int), .int .i64 (xe.2 : Int)] 2)) (.cells #[.slice (some ⟨wr.heap.size, 0, none⟩) 2 2] 36)
        have k1 := Ge.blk_keep B2 (heap_alloc_new wr (.cells #[.int .i64 (xe.1 : Int), .int .i64 (xe.2 : Int)] 2))
        have k2 := heap_alloc_new (wr.alloc (.cells #[.int .i64 (xe.1 : Int), .int .i64 (xe.2 : Int)] 2)) (.cells #[.slice (some ⟨wr.heap.size, 0, none⟩) 2 2] 36)
        have s1 : (wr.alloc (.cells #[.int .i64 (xe.1 : Int), .int .i64 (xe.2 : Int)] 2)).heap.size = wr.heap.size + 1 := by simp
        rw [s1] at k2
        have HBB := Lib.hid (below_then B1 B2)
        have HK1 := Lib.hid k1
        have HK2 := Lib.hid k2
        clear B1 B2 k1 k2 s1
        generalize hsz : wr.heap.size = sz at lp HK1 HK2 HBB hszr ⊢
        go_region_held3 (fun w' => w'.cell? ⟨pe, 0, none⟩ = some (.int .i64 (xe.1 : Int)) ∧ w'.cell? ⟨pe, 1, none⟩ = some (.int .i64 (xe.2 : Int)))
          (first
            | go_keep
            | (go_split_ands
               refine ⟨?_, ?_⟩
               · (rw [hgrow.cell_far _ (by simp [hsz]; omega) na]; assumption)
               · (rw [hgrow.cell_far _ (by simp [hsz]; omega) na]; assumption)))
          (first
            | (refine step_append_lies _ (by rfl) _ _ _ (by rfl) W.heap.size 36 i0 _ 1 24 Try.underlying42 HI.out.1 HI.out.2.1 HI.out.2.2.1 HI.out.2.2.2 rfl (by omega) v l.length _ (by rfl) ((HO.out.out.alloc _).alloc _).drew
                ⟨sz + 1, 0, none⟩ 1 1 [.slice (some ⟨sz, 0, none⟩) 2 2] (by rfl) (by rfl) (World.news_of_block (cs := #[.slice (some ⟨sz, 0, none⟩) 2 2]) (t := 36) (fr := (0, 0)) HK2.out) (by simp [Value.oneCell'])
                (by omega) (by unfold maxLen; omega) (by omega) (by simp; omega) (sz + 2) (by simp [hsz]) ?_; intro gg cap w6 hown1 hgrow hat hlt6))
        all_goals
          subst hsz
          have HO6 := Lib.hid (HO.out.step xe (Below.drew HBB.out) HK1.out hszr hown1 hgrow)
          rw [← HOt.out] at HO6
          have HB6 := Lib.hid (((HW.out.trans (HBB.out.mono hszr)).drew).grown hgrow (Nat.le_trans hszr HBB.out.size) fun g hg => (HO.out.out.lt g hg).1)
          clear hown1 hgrow hat hlt6 HK1 HK2 HBB c0 c1 na lp
          go_wp2_with fail
          go_roundw
          case rel => exact ⟨t + 1, _, _, ht1, rfl, by go_num, HB6, HO6⟩
          case measure => simp [intOf]; omega
    · have htE : t = E := by omega
      have e1 : ¬ (t : Int) < (E : Int) := by omega
      rw [htE] at HO
      clear htE
      go_wp2_with fail
      go_ret
      exact ⟨v, rfl, ⟨G, HO⟩, HW.out⟩
/-- A new list of rows of two numbers, and a code. -/
def RowsAt (l : List (Nat × Nat)) (c : Int) (w : World) (e : Ending) (w' : World) : Prop := ∃ A cap As cs, e = .returned (.tuple #[.slice A l.length cap, .int .i64 c]) ∧ Hid (Ss2.RowsO w' w.heap.size A l.length As (fun _ => 2) cs (rd l) ∧ ∀ b o, A = some ⟨b, o, none⟩ → w.heap.size ≤ b) ∧ Below w.heap.size w w'
noncomputable def vL (n : Nat) (N : Nat → ByteArray) (ms : Nat → Nat) (ds : Nat → Nat → Int) (k : Nat) (S : Nat → Int) (o : Int) : List (Nat × Nat) := if tv (PatP n N ms ds k S o) = true then ol ms n S k (sumN ms n) else []
theorem vl_len (n : Nat) (N : Nat → ByteArray) (ms : Nat → Nat) (ds : Nat → Nat → Int) (k : Nat) (S : Nat → Int) (o : Int) : (vL n N ms ds k S o).length ≤ 80 := by
  unfold vL
  split
  · rename_i q
    obtain ⟨p1, p2, _⟩ := pat_in (tv_iff.1 q)
    have := sum_le (ms := ms) (p := n) (fun i hi => (p2 i hi).2)
    rw [ol_len]
    have := cc_le (opB ms n S k) (sumN ms n)
    omega
  · simp
theorem rows_later {w : World} {B B' : Nat} {A : Option Addr} {n : Nat} {As : Nat → Option Addr} {ms cs : Nat → Nat} {ds : Nat → Nat → Int} (h : Ss2.RowsO w B A n As ms cs ds) (hB : B' ≤ B) : Ss2.RowsO w B' A n As ms cs ds := ⟨h.out, fun i hi => Bw.own_later (h.inn i hi) hB, h.apart, h.outer⟩
theorem rows_none {w w' : World} {c : Int} (hb : Below w.heap.size w w') : RowsAt [] c w (.returned (.tuple #[.slice none 0 0, .int .i64 c])) w' :=
  ⟨none, 0, fun _ => none, fun _ => 0, rfl, Lib.hid ⟨⟨fun h => absurd h (Nat.not_lt_zero _), fun _ h => absurd h (Nat.not_lt_zero _), fun _ _ h => absurd h (Nat.not_lt_zero _), fun _ h => absurd h (Nat.not_lt_zero _)⟩, fun b o e => by cases e⟩, hb⟩
theorem rows_of {w w1 w' : World} {v : Value} {l : List (Nat × Nat)} {G : Nat → Nat} (h : OM w' w1.heap.size v l G) (h0 : Below w.heap.size w w1) (hb : Below w1.heap.size w1 w') : RowsAt l 0 w (.returned (.tuple #[v, .int .i64 0])) w' := by
  obtain ⟨A, cap, rfl, hr, hb2⟩ := OM.rows h
  exact ⟨A, cap, _, _, rfl, Lib.hid ⟨rows_later hr h0.size, fun b o e => Nat.le_trans h0.size (hb2 b o e)⟩, below_then h0 hb⟩
set_option maxHeartbeats 2000000 in
theorem told_rows (A : Option Addr) (n c : Nat) (N : Nat → ByteArray) (ms : Nat → Nat) (ds : Nat → Nat → Int) (Y : Option Addr) (k sc : Nat) (S : Nat → Int) (o : Int) (hz : Small n N ms k) (hw : ∀ i, i < k * 4 → (Lit.int .i64 (S i)).wf = true) (w : World) (h : PatR w A n N ms ds Y k S) :
    Calls Try.prog 63 #[paV A n c Y k sc o, .func (.func 64) #[] #[]] w (RowsAt (vL n N ms ds k S o) (vC n N ms ds k S o) w) := by
  have eF : ∀ args w, (callFunc 64 args).run Try.prog w = .ok (.enter 64 args) w := Go.Proofs.enters_of Try.func64 (by kernel_rfl) rfl
  have HB := Lib.hid (below_box w (.cells #[.slice A n c, .slice Y k sc, .int .i64 o] 31))
  have C := Lib.hid ((surface_of A n c N ms ds Y k sc S o hz hw _ (h.below HB.out)).mono fun _ _ h => SfAt.cases h)
  have HR := Lib.hid h
  have HF := Lib.hid (fun hP B W ea el ec bm P g h1 h2 => openEdges A n c N ms ds Y k sc S o hz hP B W ea el ec bm P g h1 h2)
  have HT : Hid (tv (PatP n N ms ds k S o) = true → PatP n N ms ds k S o) := Lib.hid fun h => tv_iff.1 h
  have QN : Hid (tv (PatP n N ms ds k S o) = false → ∀ W, Below w.heap.size w W → RowsAt (vL n N ms ds k S o) (vC n N ms ds k S o) w (.returned (.tuple #[.slice none 0 0, .int .i64 1])) W) := Lib.hid fun e W h => by
    unfold vL vC; rw [e]; exact rows_none h
  have QY : Hid (tv (PatP n N ms ds k S o) = true → ∀ W w1 v G, OM W w1.heap.size v (ol ms n S k (sumN ms n)) G → Below w.heap.size w w1 → Below w1.heap.size w1 W → RowsAt (vL n N ms ds k S o) (vC n N ms ds k S o) w (.returned (.tuple #[v, .int .i64 0])) W) := Lib.hid fun e W w1 v G h0 h1 h2 => by
    unfold vL vC; rw [e]; exact rows_of h0 h1 h2
  clear h
  generalize RowsAt (vL n N ms ds k S o) (vC n N ms ds k S o) w = Q at QN QY ⊢
  unfold paV
  unfold paV sfZ sfV at C
  unfold sfV at HF
  generalize tv (PatP n N ms ds k S o) = r at C HT QN QY
  go_enter Try.func63, Try.ntmps63
  go_wp2_with fail
  refine C.out.mono ?_
  rintro e w1 ⟨b1, ⟨rfl, rfl⟩ | ⟨rfl, ea, el, ec, bm, P, g, rfl, HS⟩⟩
  · have HQ := Lib.hid (below_then HB.out b1)
    have HA := Lib.hid (QN.out rfl _ (HQ.out.alloc HQ.out.size (suC (.slice none 0 0) (.slice none 0 0) (.int .i64 0) (.slice none 0 0) (.map none))))
    clear b1 C HF HT QN QY
    go_wp2_with fail
    exact HA.out
  · have HQ := Lib.hid (below_then HB.out b1)
    have BX := Lib.hid (below_box w1 (suC (.slice A n c) (.slice Y k sc) (.int .i64 o) (.slice ea el ec) (.map (some bm))))
    have HQ2 := Lib.hid (below_then HQ.out BX.out)
    have CF := Lib.hid (HF.out (HT.out rfl) _ _ ea el ec bm P g (HR.out.below HQ2.out) (HS.out.below BX.out))
    have QYY := Lib.hid (QY.out rfl)
    clear b1 C HF HT HS QN QY
    go_wp2_with fail
    refine CF.out.mono ?_
    rintro e w2 ⟨v2, G2, rfl, HO, b2⟩
    have HE := Lib.hid (QYY.out w2 _ v2 G2 HO.out HQ2.out b2)
    clear b2 QYY
    go_wp2_with fail
    exact HE.out
set_option maxRecDepth 100000 in
set_option maxHeartbeats 2000000 in
theorem spec_oe (A : Option Addr) (n c : Nat) (N : Nat → ByteArray) (ms : Nat → Nat) (ds : Nat → Nat → Int) (Y : Option Addr) (k sc : Nat) (S : Nat → Int) (o : Int) (hz : Small n N ms k) (w : World) (h : PatR w A n N ms ds Y k S) :
    Calls Try.prog 26 #[paV A n c Y k sc o] w (RowsAt (vL n N ms ds k S o) (vC n N ms ds k S o) w) := by
  have HB := Lib.hid (below_box w (.cells #[.slice A n c, .slice Y k sc, .int .i64 o] 31))
  have HX := Lib.hid (Boxed.mk (c := c) (sc := sc) (o := o) (heap_alloc_new w (.cells #[.slice A n c, .slice Y k sc, .int .i64 o] 31)) (h.below HB.out))
  have C := Lib.hid (ok w.heap.size A n c N ms ds Y k sc S o hz _ HX.out)
  unfold paV vL vC
  by_cases hP : PatP n N ms ds k S o
  · rw [tv_yes hP] at C ⊢
    simp only [if_true]
    have CP := Lib.hid (fun W hW => s_open w.heap.size A n c N ms ds Y k sc S o hz hP W hW)
    clear h hz hP
    generalize ol ms n S k (sumN ms n) = D at CP ⊢
    have HF : Hid (∀ W w1 v G, OM W w1.heap.size v D G → Below w.heap.size w w1 → Below w1.heap.size w1 W → RowsAt D 0 w (.returned (.tuple #[v, .int .i64 0])) W) := Lib.hid fun W w1 v G h0 h1 h2 => rows_of h0 h1 h2
    generalize RowsAt D 0 w = Q at HF ⊢
    go_enter Try.func26, Try.ntmps26
    go_wp2_with fail
    refine C.out.mono ?_
    rintro e w1 ⟨rfl, b1⟩
    have HX1 := Lib.hid (HX.out.below b1)
    have HB1 := Lib.hid (below_then HB.out b1)
    have C2 := Lib.hid (CP.out w1 HX1.out)
    clear b1 C HX HB
    go_wp2_with fail
    refine C2.out.mono ?_
    rintro e w2 ⟨v2, G2, rfl, HO, hb2⟩
    have HZ := Lib.hid (HF.out w2 w1 v2 G2 HO.out HB1.out hb2)
    clear hb2 HF
    go_wp2_with fail
    exact HZ.out
  · rw [tv_no hP] at C ⊢
    simp only [Bool.false_eq_true, if_false]
    clear h hz hP
    have HF : Hid (∀ W, Below w.heap.size w W → RowsAt [] 1 w (.returned (.tuple #[.slice none 0 0, .int .i64 1])) W) := Lib.hid fun W h => rows_none h
    generalize RowsAt [] 1 w = Q at HF ⊢
    go_enter Try.func26, Try.ntmps26
    go_wp2_with fail
    refine C.out.mono ?_
    rintro e w1 ⟨rfl, b1⟩
    have HZ := Lib.hid (HF.out _ (below_then HB.out b1))
    clear b1 HF
    go_wp2_with fail
    exact HZ.out
theorem impl_oe (A : Option Addr) (n c : Nat) (N : Nat → ByteArray) (ms : Nat → Nat) (ds : Nat → Nat → Int) (Y : Option Addr) (k sc : Nat) (S : Nat → Int) (o : Int) (hz : Small n N ms k) (hw : ∀ i, i < k * 4 → (Lit.int .i64 (S i)).wf = true) (w : World) (h : PatR w A n N ms ds Y k S) :
    Calls Try.prog 27 #[paV A n c Y k sc o] w (RowsAt (vL n N ms ds k S o) (vC n N ms ds k S o) w) := by
  have HB := Lib.hid (below_box w (.cells #[.slice A n c, .slice Y k sc, .int .i64 o] 31))
  have C := Lib.hid (told_rows A n c N ms ds Y k sc S o hz hw _ (h.below HB.out))
  clear h
  generalize vL n N ms ds k S o = m at C ⊢
  generalize vC n N ms ds k S o = cd at C ⊢
  have HF : Hid (∀ w1 W A' cap As cs, (Ss2.RowsO W w1.heap.size A' m.length As (fun _ => 2) cs (rd m) ∧ ∀ b o, A' = some ⟨b, o, none⟩ → w1.heap.size ≤ b) → Below w.heap.size w w1 → Below w1.heap.size w1 W → RowsAt m cd w (.returned (.tuple #[.slice A' m.length cap, .int .i64 cd])) W) := Lib.hid fun w1 W A' cap As cs h0 h1 h2 => ⟨A', cap, As, cs, rfl, Lib.hid ⟨rows_later h0.1 h1.size, fun b o e => Nat.le_trans h1.size (h0.2 b o e)⟩, below_then h1 h2⟩
  generalize RowsAt m cd w = Q at HF ⊢
  unfold RowsAt at C
  unfold paV
  unfold paV at C
  go_enter Try.func27, Try.ntmps27
  go_wp2_with fail
  refine C.out.mono ?_
  rintro e w1 ⟨A1, cap1, As1, cs1, rfl, HO, b1⟩
  have HE := Lib.hid (HF.out _ w1 A1 cap1 As1 cs1 HO.out HB.out b1)
  clear b1 HF HO
  go_wp2_with fail
  exact HE.out
end Go.Proofs.Ytnojnikophpnoaa.Vp
