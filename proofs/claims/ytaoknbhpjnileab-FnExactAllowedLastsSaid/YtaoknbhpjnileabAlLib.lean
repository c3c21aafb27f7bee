/- Both functions AllowedLasts. -/
import Derived.Test.YtaoknbhpjnileabCkLib
namespace Go.Proofs.Ytaoknbhpjnileab.Ch
open Go.RowKit Ft Is Ge Qb Fa Fi La Ll Lv Co

/-- Whether a last is allowed, by its cost. -/
noncomputable def alP (F : Nat → Nat → Int) (mn mx gi : Int) (p a : Nat → Int) (i : Nat) : Bool := decide (0 ≤ ct mn mx gi p (F i) a)
noncomputable def alL (n : Nat) (N : Nat → ByteArray) (F : Nat → Nat → Int) (a : Nat → Int) (mn mx gi : Int) (m : Nat) (p : Nat → Int) : List Nat := if okL n N F a mn mx gi m p then fl (alP F mn mx gi p a) n else []
noncomputable def okC (n : Nat) (N : Nat → ByteArray) (F : Nat → Nat → Int) (a : Nat → Int) (mn mx gi : Int) (m : Nat) (p : Nat → Int) : Int := if okL n N F a mn mx gi m p then 0 else 1
/-- The numbers of a list of places. -/
def lsD (l : List Nat) (i : Nat) : Int := ((l.getD i 0 : Nat) : Int)
theorem upto_congr {f g : Nat → Int} {k : Nat} (h : ∀ i, i < k → f i = g i) : upto f k = upto g k := List.map_congr_left fun i hi => by rw [h i (List.mem_range.1 hi)]
theorem upto_ls (l : List Nat) (k : Nat) : upto (lsD (l ++ [k])) (l ++ [k]).length = upto (lsD l) l.length ++ [.int .i64 (k : Int)] := by
  rw [List.length_append, show [k].length = 1 from rfl, upto_snoc]
  congr 1
  · exact upto_congr fun i hi => by simp [lsD, List.getD, List.getElem?_append_left hi]
  · simp [lsD, List.getD]
/-- A new list of numbers, and a code. -/
def PairAt (n : Nat) (d : Nat → Int) (c : Int) (w : World) (e : Ending) (w' : World) : Prop := ∃ A cap, e = .returned (.tuple #[.slice A n cap, .int .i64 c]) ∧ Hid (Own w' w.heap.size A n d) ∧ Below w.heap.size w w'
theorem pair_of {n : Nat} {d : Nat → Int} {w w0 w' : World} {v : Value} (h : w'.ownsRow w0.heap.size 2 1 v n (upto d n)) (h0 : Below w.heap.size w w0) (hb : Below w0.heap.size w0 w') : PairAt n d 0 w (.returned (.tuple #[v, .int .i64 0])) w' := by
  obtain ⟨A, cap, e, ho, hb'⟩ := row_own h hb
  cases e
  exact ⟨A, cap, rfl, Lib.hid fun hp => by
    obtain ⟨b, off, e, h1, h2, h3, h4⟩ := ho.out hp
    exact ⟨b, off, e, by have := h0.size; omega, h2, h3, h4⟩, below_then h0 hb⟩
theorem pair_no {w w' : World} {c : Int} (hb : Below w.heap.size w w') (d : Nat → Int) : PairAt 0 d c w (.returned (.tuple #[.slice none 0 0, .int .i64 c])) w' := ⟨none, 0, rfl, Lib.hid fun h => absurd h (by omega), hb⟩
theorem fine_of {n : Nat} {N : Nat → ByteArray} {F : Nat → Nat → Int} {a : Nat → Int} {mn mx gi : Int} {m : Nat} {p : Nat → Int} (h : okL n N F a mn mx gi m p = true) : m = 4 ∧ n ≤ 30 ∧ Mild a ∧ Fine n F mn mx gi p 1 (fun _ => a) := by
  simp only [okL, Bool.and_eq_true] at h
  obtain ⟨h1, h2, h3⟩ := h
  have ho := tv_iff.1 h1
  obtain ⟨e, f1, f2, f3, f4⟩ := fit_in (tv_iff.1 h3)
  exact ⟨e, ho.1, mild_of_ft h2, ⟨fun i hi => mild_of_la (ho.2.1 i hi), fun _ _ => mild_of_ft h2, by omega, f1, f2, f3, f4⟩⟩
theorem al_one {n : Nat} {F : Nat → Nat → Int} {mn mx gi : Int} {p a : Nat → Int} (h : Fine n F mn mx gi p 1 (fun _ => a)) (i : Nat) : al mn mx gi F (fun _ => a) 1 i = alP F mn mx gi p a i := by
  unfold al alP rk
  by_cases hr : rf mn mx gi (F i) a
  · rw [tv_yes ⟨0, by omega, hr⟩, ct_rf hr]; rfl
  · rw [tv_no fun ⟨_, _, q⟩ => hr q, decide_eq_true (ct_nn h.price hr)]; rfl
theorem ck_one {F : Nat → Nat → Int} {mn mx gi : Int} {p a : Nat → Int} {i : Nat} (h : alP F mn mx gi p a i = true) : ck p mn (F i) (fun _ => a) 1 = ct mn mx gi p (F i) a := by
  have hr : ¬ rf mn mx gi (F i) a := fun q => by rw [alP, ct_rf q] at h; simp at h
  rw [ct_not hr]
  exact Int.zero_add _

set_option maxRecDepth 100000 in
set_option maxHeartbeats 4000000 in
theorem spec_al (A1 : Option Addr) (n c1 : Nat) (N : Nat → ByteArray) (F : Nat → Nat → Int) (a : Nat → Int) (mn mx gi : Int) (A : Option Addr) (m c : Nat) (p : Nat → Int) (hn : n ≤ 1048576) (hm : m ≤ 1048576) (w : World)
    (h1 : Lasts w w.heap.size A1 n N F) (hA : Nums w w.heap.size A m p) :
    Calls Try.prog 24 #[.slice A1 n c1, ftV a, fitV mn mx gi A m c] w (PairAt (alL n N F a mn mx gi m p).length (lsD (alL n N F a mn mx gi m p)) (okC n N F a mn mx gi m p) w) := by
  obtain ⟨i0, hi0, hz0, hz1, hz2⟩ := info_parts info_num
  have HI := Lib.hid (And.intro hi0 (And.intro hz0 (And.intro hz1 hz2)))
  have C := Lib.hid (fun g w hg h1 hA => code_any A1 n c1 N F a mn mx gi A m c p hn hm g w hg h1 hA)
  have HL : Hid (alL n N F a mn mx gi m p = if okL n N F a mn mx gi m p then fl (alP F mn mx gi p a) n else []) := Lib.hid rfl
  have HC : Hid (okC n N F a mn mx gi m p = if okL n N F a mn mx gi m p then 0 else 1) := Lib.hid rfl
  have HY := Lib.hid (fun h => fine_of (n := n) (N := N) (F := F) (a := a) (mn := mn) (mx := mx) (gi := gi) (m := m) (p := p) h)
  obtain ⟨ka, kf⟩ := Ge.two w (ftC a 35) (fiC mn mx gi A m c 37)
  have KA := Lib.hid ka
  have KF := Lib.hid kf
  have HW := Lib.hid (Ge.below2 w (ftC a 35) (fiC mn mx gi A m c 37))
  have H1 := Lib.hid h1
  have HA := Lib.hid hA
  clear hi0 hz0 hz1 hz2 ka kf h1 hA
  generalize alL n N F a mn mx gi m p = L at HL ⊢
  generalize okC n N F a mn mx gi m p = cd at HC ⊢
  generalize okL n N F a mn mx gi m p = ok at HL HC HY C
  go_enter Try.func24, Try.ntmps24
  go_upto_region 1 with fail
  generalize hw0 : (w.alloc _).alloc _ = w0 at KA KF HW ⊢
  clear hw0
  obtain ⟨y0, y1, y2, y3⟩ := Ge.blk4 KA.out
  go_wp2_with fail
  refine (C.out _ _ KF.out ((H1.out.below HW.out (Nat.le_refl _)).more HW.out.size) ((HA.out.below HW.out (Nat.le_refl _)).more HW.out.size)).mono ?_
  rintro e w1 ⟨rfl, b1⟩
  have HB1 := Lib.hid (below_then HW.out b1)
  have KA1 := Lib.hid (blk_keep b1 KA.out)
  have KF1 := Lib.hid (blk_keep b1 KF.out)
  clear b1 KA KF HW y0 y1 y2 y3 C
  cases ok
  · have HF : Hid (PairAt L.length (lsD L) cd w (.returned (.tuple #[.slice none 0 0, .int .i64 1])) w1) := Lib.hid (by
      rw [show L = [] from HL.out, show cd = 1 from HC.out]
      exact pair_no (c := 1) HB1.out _)
    clear HY HL HC
    go_wp2_with fail
    exact bodyPost_ret (v := .tuple #[.slice none 0 0, .int .i64 1]) (by simp [results, Try.results24, go_sem]) rfl HF.out
  · have HL' : Hid (L = fl (alP F mn mx gi p a) n) := Lib.hid HL.out
    have HC' : Hid (cd = 0) := Lib.hid HC.out
    obtain ⟨rfl, h30, MA, FN⟩ := HY.out rfl
    have CT := Lib.hid (fun i (hi : i < n) g w hg hA => spec_cost (N i) (F i) a mn mx gi A c p (FN.last i hi) MA FN.lo FN.hi FN.girth FN.price g w hg hA)
    have HP : Hid (∀ i, alP F mn mx gi p a i = decide (0 ≤ ct mn mx gi p (F i) a)) := Lib.hid fun _ => rfl
    clear HY HL HC FN MA
    generalize alP F mn mx gi p a = q at HP HL' ⊢
    go_wp2_with fail
    go_loopw [8, 9] (fun o i wr => ∃ (k : Nat) (v : Value), k ≤ n ∧ v = o ∧ i = .int .i64 k ∧ Hid (Below w1.heap.size w1 wr) ∧ Hid (wr.ownsRow w1.heap.size 2 1 v (fl q k).length (upto (lsD (fl q k)) (fl q k).length))) (fun _ i _ => n - (intOf i).toNat)
    case atStart => exact ⟨0, _, Nat.zero_le _, rfl, rfl, Lib.hid (below_box _ _), Lib.hid (World.ownsRow_made w1 #[] 0 (Nat.le_refl _) (by simp [maxLen]) rfl)⟩
    case round =>
      obtain ⟨k, v, hk, rfl, rfl, HB, HO⟩ := hrel
      by_cases hlt : k < n
      · have HBw := Lib.hid (below_then HB1.out HB.out)
        obtain ⟨b, off, rfl, hb, hc⟩ := (H1.out.below HBw.out (Nat.le_refl _)).2.2 (by omega)
        obtain ⟨x0, x1, x2, x3, x4, x5⟩ := Lasts.cells hc hlt
        obtain ⟨y0, y1, y2, y3⟩ := Ge.blk4 (blk_keep HB.out KA1.out)
        have x0 := bey_cell x0
        have x1 := bey_cell x1
        have x2 := bey_cell x2
        have x3 := bey_cell x3
        have x4 := bey_cell x4
        have x5 := bey_cell x5
        have y0 := bey_cell y0
        have y1 := bey_cell y1
        have y2 := bey_cell y2
        have y3 := bey_cell y3
        have KFr := Lib.hid (blk_keep HB.out KF1.out)
        have HAr := Lib.hid ((HA.out.below HBw.out (Nat.le_refl _)).more HBw.out.size)
        have CF := Lib.hid (fun z : Beyond wr => CT.out k hlt _ z.to (blk_keep z.h KFr.out) ((HAr.out.below z.h (Nat.le_refl _)).more z.h.size))
        have HQ := Lib.hid (HP.out k)
        generalize ct mn mx gi p (F k) a = t at CF HQ
        have e0 : (0 : Int) ≤ (k : Int) := Int.natCast_nonneg _
        have e1 : (k : Int) < (n : Int) := by omega
        clear hc hb HAr KFr
        go_wp2_with fail
        refine wp_region_below (by kernel_rfl) (by kernel_rfl) ?_
        repeat (go_big_quiet_step (first | (go_at_call 58; exact bey_of _ (CF.out _))))
        refine wpQuiet_nil ?_
        rintro _ ⟨pq, rfl⟩
        have HQ2 := Lib.hid (HB.out.trans (pq.h.mono HB.out.size))
        have HO2 := Lib.hid (Ge.row_below HO.out pq.h)
        generalize pq.to = wq at HQ2 HO2 ⊢
        clear x0 x1 x2 x3 x4 x5 y0 y1 y2 y3 CF
        by_cases ht : 0 ≤ t
        · have hq : q k = true := HQ.out.trans (decide_eq_true ht)
          have hz := HQ2.out.size
          have hle := fl_le q k
          go_wp2_with (at_builtin; refine wpList_append_own _ rfl _ _ 26 rfl w1.heap.size 2 i0 _ 1 8 Try.underlying26 HI.out.1 HI.out.2.1 HI.out.2.2.1 HI.out.2.2.2 rfl (by decide) _ _ _ rfl (HO2.out.alloc _) ⟨wq.heap.size, 0, none⟩ 1 1 [.int .i64 (k : Int)] rfl rfl ?c1 ?c2 ?c3 ?c4 ?c5 ?_)
          case c1 => exact cell_one_new _ _ _
          case c2 => simp [Value.oneCell']
          case c3 => unfold maxLen; omega
          case c4 => omega
          case c5 => first | omega | (simp <;> omega)
          intro v' w4 hown4 hgrow _
          have HQ4 := Lib.hid ((HQ2.out.alloc hz _).grown hgrow (by simp; omega) fun g hg => (HO2.out.lt g hg).1)
          have HO4 : Hid (w4.ownsRow w1.heap.size 2 1 v' (fl q (k + 1)).length (upto (lsD (fl q (k + 1))) (fl q (k + 1)).length)) := Lib.hid (by rw [fl_yes hq, upto_ls, List.length_append]; exact hown4)
          clear hown4 hgrow
          go_wp2_with fail
          go_roundw
          case rel => exact ⟨k + 1, _, by omega, rfl, by go_num, HQ4, HO4⟩
          case measure => simp [intOf]; omega
        · have hq : q k = false := HQ.out.trans (decide_eq_false ht)
          have HO3 : Hid (wq.ownsRow w1.heap.size 2 1 v (fl q (k + 1)).length (upto (lsD (fl q (k + 1))) (fl q (k + 1)).length)) := Lib.hid (by rw [fl_no hq]; exact HO2.out)
          go_wp2_with fail
          go_roundw
          case rel => exact ⟨k + 1, _, by omega, rfl, by go_num, HQ2, HO3⟩
          case measure => simp [intOf]; omega
      · obtain rfl : k = n := by omega
        have HF : Hid (PairAt L.length (lsD L) cd w (.returned (.tuple #[v, .int .i64 0])) wr) := Lib.hid (by
          rw [HL'.out, HC'.out]
          exact pair_of HO.out HB1.out HB.out)
        go_wp2_with fail
        exact bodyPost_ret (v := .tuple #[v, .int .i64 0]) (by simp [results, Try.results24, go_sem]) rfl HF.out

set_option maxRecDepth 100000 in
set_option maxHeartbeats 4000000 in
theorem impl_al (HG : GapsSaid) (A1 : Option Addr) (n c1 : Nat) (N : Nat → ByteArray) (F : Nat → Nat → Int) (a : Nat → Int) (mn mx gi : Int) (A : Option Addr) (m c : Nat) (p : Nat → Int) (hn : n ≤ 1048576) (hm : m ≤ 1048576) (hw : ∀ j, j < 4 → (Lit.int .i64 (a j)).wf = true) (w : World)
    (h1 : Lasts w w.heap.size A1 n N F) (hA : Nums w w.heap.size A m p) :
    Calls Try.prog 26 #[.slice A1 n c1, ftV a, fitV mn mx gi A m c] w (PairAt (alL n N F a mn mx gi m p).length (lsD (alL n N F a mn mx gi m p)) (okC n N F a mn mx gi m p) w) := by
  have CE := Lib.hid (fun A2 c2 w h1 hA h2 => err_any A1 n c1 N F mn mx gi A m c p A2 1 c2 (fun _ => a) hn hm (by omega) w h1 hA h2)
  rw [fe_list] at CE
  have HL : Hid (alL n N F a mn mx gi m p = if okL n N F a mn mx gi m p then fl (alP F mn mx gi p a) n else []) := Lib.hid rfl
  have HC : Hid (okC n N F a mn mx gi m p = if okL n N F a mn mx gi m p then 0 else 1) := Lib.hid rfl
  have HY := Lib.hid (fun h => fine_of (n := n) (N := N) (F := F) (a := a) (mn := mn) (mx := mx) (gi := gi) (m := m) (p := p) h)
  obtain ⟨ka, kf, k3⟩ := Co.three w (ftC a 35) (fiC mn mx gi A m c 37) (ftC a 35)
  have KA := Lib.hid ka
  have KF := Lib.hid kf
  have K3 := Lib.hid (one_foot k3 hw)
  have HW := Lib.hid (Co.below3 w (ftC a 35) (fiC mn mx gi A m c 37) (ftC a 35))
  have H1 := Lib.hid h1
  have HA := Lib.hid hA
  have Hw := Lib.hid hw
  clear ka kf k3 h1 hA hw
  generalize alL n N F a mn mx gi m p = L at HL ⊢
  generalize okC n N F a mn mx gi m p = cd at HC ⊢
  generalize okL n N F a mn mx gi m p = ok at HL HC HY CE
  go_enter Try.func26, Try.ntmps26
  go_wp2_with fail
  generalize hw0 : ((w.alloc _).alloc _).alloc _ = w0 at KA KF K3 HW ⊢
  clear hw0
  refine (CE.out _ _ _ ((H1.out.below HW.out (Nat.le_refl _)).more HW.out.size) ((HA.out.below HW.out (Nat.le_refl _)).more HW.out.size) K3.out).mono ?_
  rintro e w1 ⟨rfl, b1⟩
  have HB1 := Lib.hid (below_then HW.out b1)
  have KA1 := Lib.hid (blk_keep b1 KA.out)
  have KF1 := Lib.hid (blk_keep b1 KF.out)
  clear b1 KA KF K3 HW CE
  cases ok
  · have HF : Hid (PairAt L.length (lsD L) cd w (.returned (.tuple #[.slice none 0 0, .int .i64 1])) w1) := Lib.hid (by
      rw [show L = [] from HL.out, show cd = 1 from HC.out]
      exact pair_no (c := 1) HB1.out _)
    clear HY HL HC
    go_wp2_with fail
    exact bodyPost_ret (v := .tuple #[.slice none 0 0, .int .i64 1]) (by simp [results, Try.results26, go_sem]) rfl HF.out
  · have HL' : Hid (L = fl (alP F mn mx gi p a) n) := Lib.hid HL.out
    have HC' : Hid (cd = 0) := Lib.hid HC.out
    obtain ⟨rfl, h30, MA, FN⟩ := HY.out rfl
    have CH := Lib.hid (fun AF cf w h1 hA h2 => choices_any HG A1 n c1 N F mn mx gi A c p AF 1 cf (fun _ => a) h30 FN w h1 hA h2)
    rw [fl_congr (p := al mn mx gi F (fun _ => a) 1) (q := alP F mn mx gi p a) (k := n) (fun i _ => al_one FN i)] at CH
    clear HY HL HC FN MA HG
    have hle := fl_le (alP F mn mx gi p a) n
    generalize fl (alP F mn mx gi p a) n = M at CH hle HL' ⊢
    obtain ⟨y0, y1, y2, y3⟩ := Ge.blk4 KA1.out
    obtain ⟨z0, z1, z2, z3⟩ := Ge.blk4 KF1.out
    have lx := lt_of_heap KA1.out
    have lf := lt_of_heap KF1.out
    go_wp2_with fail
    have HB2 := Lib.hid (below_then HB1.out (below_box w1 (ftC a 35)))
    have K2 := Lib.hid (one_foot (heap_alloc_new w1 (ftC a 35)) Hw.out)
    generalize w1.alloc _ = w2 at HB2 K2 ⊢
    clear y0 y1 y2 y3 z0 z1 z2 z3 lx lf
    refine (CH.out _ _ _ ((H1.out.below HB2.out (Nat.le_refl _)).more HB2.out.size) ((HA.out.below HB2.out (Nat.le_refl _)).more HB2.out.size) K2.out).mono ?_
    rintro e w3 ⟨v, rfl, ho, b3⟩
    have HB3 := Lib.hid (below_then HB2.out b3)
    obtain ⟨A3, c3, rfl, h3⟩ := two_of_row ho.out
    have H3 := Lib.hid h3
    clear b3 h3 ho
    go_wp2_with fail
    refine (indices_any A3 _ c3 _ _ (by omega) _ H3.out).mono ?_
    rintro e w4 ⟨A4, c4, rfl, h4, b4⟩
    have HF : Hid (PairAt L.length (lsD L) cd w (.returned (.tuple #[.slice A4 M.length c4, .int .i64 0])) w4) := Lib.hid (by
      rw [HL'.out, HC'.out]
      exact ⟨A4, c4, rfl, Lib.hid fun hp => by
      obtain ⟨b, off, e, h1, h2, h3, h4⟩ := h4.out hp
      exact ⟨b, off, e, by have := HB3.out.size; omega, h2, h3, h4⟩, below_then HB3.out b4⟩)
    clear h4 b4
    go_wp2_with fail
    exact bodyPost_ret (v := .tuple #[.slice A4 M.length c4, .int .i64 0]) (by simp [results, Try.results26, go_sem]) rfl HF.out
end Go.Proofs.Ytaoknbhpjnileab.Ch
