/- Feet that are far from their middle: their places. -/
import Derived.Test.YtoincfhhafpekaaMeLib
import Derived.Test.YtoincfhhafpekaaFbLib
namespace Go.Proofs.Ytoincfhhafpekaa.Fl
open Go.RowKit Ft Fs Ld Is Fc Cl Ms Md Me Fa Qb

/-- The places below k of which p holds. -/
def fl (p : Nat → Bool) (k : Nat) : List Nat := (List.range k).filter p
theorem fl_yes {p : Nat → Bool} {k : Nat} (h : p k = true) : fl p (k + 1) = fl p k ++ [k] := by simp [fl, List.range_succ, h]
theorem fl_no {p : Nat → Bool} {k : Nat} (h : p k = false) : fl p (k + 1) = fl p k := by simp [fl, List.range_succ, h]
theorem fl_le (p : Nat → Bool) (k : Nat) : (fl p k).length ≤ k := by
  have := List.length_filter_le p (List.range k)
  simpa [fl] using this
theorem fl_lt {p : Nat → Bool} {k i : Nat} (h : i < (fl p k).length) : (fl p k).getD i 0 < k := by
  have hm : (fl p k)[i] ∈ fl p k := List.getElem_mem h
  have hr : (fl p k)[i] ∈ List.range k := (List.mem_filter.1 hm).1
  have e : (fl p k).getD i 0 = (fl p k)[i] := by simp [List.getD, h]
  rw [e]
  exact List.mem_range.1 hr
/-- The places as cells. -/
def cl (l : List Nat) : List Value := l.map fun i : Nat => Value.int .i64 (Int.ofNat i)
theorem cl_snoc (l : List Nat) (k : Nat) : cl (l ++ [k]) = cl l ++ [.int .i64 (k : Int)] := by simp [cl]
theorem cl_len (l : List Nat) : (cl l).length = l.length := by simp [cl]
/-- A new slice of places. -/
theorem col_of_places {l : List Nat} {w w' : World} {v : Value} (h : w'.ownsRow w.heap.size 2 1 v l.length (cl l)) (hb : Below w.heap.size w w') : ColAt l.length (fun i => ((l.getD i 0 : Nat) : Int)) w (.returned v) w' := by
  rcases h.2 with ⟨rfl, h0⟩ | ⟨g, cap, cur, rfl, hbg, hh, _⟩
  · exact ⟨none, 0, by rw [h0], Lib.hid fun h => absurd h (by omega), hb⟩
  · exact ⟨_, cap, rfl, Lib.hid fun _ => ⟨g, 0, rfl, hbg, lt_of_heap hh, fun i hi => by
      rw [Nat.zero_add]
      refine (h.cellAt i (by omega)).trans ?_
      simp [cl, hi], fun i => blk_free hh i⟩, hb⟩
theorem mid_mem {f : Nat → Int} {n : Nat} (h0 : 0 < n) : ∃ i, i < n ∧ mid f n = f i := by
  have hl : (n - 1) / 2 < (srt f n).length := by rw [srt_len]; omega
  have hm : (srt f n)[(n - 1) / 2] ∈ srt f n := List.getElem_mem hl
  have : (srt f n)[(n - 1) / 2] ∈ xs f n := (List.mergeSort_perm _ _).mem_iff.1 hm
  simp [xs] at this
  obtain ⟨i, hi, e⟩ := this
  exact ⟨i, hi, by unfold mid; simp [List.getD, hl, ← e]⟩
theorem okay_mild {n : Nat} {F : Nat → Nat → Int} (h : Okay n F) {i : Nat} (hi : i < n) : Mild (F i) := fun j hj => by
  have := h.2 i hi
  simp [ftAt, ftB, inB] at this
  obtain rfl | rfl | rfl | rfl : j = 0 ∨ j = 1 ∨ j = 2 ∨ j = 3 := by omega
  all_goals omega
theorem md_mild {n : Nat} {F : Nat → Nat → Int} (h : Okay n F) (h0 : 0 < n) : Mild (md n F) := fun j hj => by
  obtain ⟨i, hi, e⟩ := mid_mem (f := fun i => F i j) h0
  unfold md
  rw [e]
  exact okay_mild h hi j hj
/-- Foot i is far from the middle. -/
noncomputable def pf (n : Nat) (F : Nat → Nat → Int) (most : Int) (i : Nat) : Bool := farB (F i) (md n F) most
/-- A new list of places, and a code. -/
def PairAt (n : Nat) (d : Nat → Int) (c : Int) (w : World) (e : Ending) (w' : World) : Prop :=
  ∃ A cap, e = .returned (.tuple #[.slice A n cap, .int .i64 c]) ∧ Hid (Own w' w.heap.size A n d) ∧ Below w.heap.size w w'

set_option maxRecDepth 100000 in
theorem spec_far_yes (A : Option Addr) (n c : Nat) (F : Nat → Nat → Int) (most : Int) (hn : n ≤ 1048576) (hc : codeOf n F most = 0) (h0 : 0 < n) (ho : Okay n F) (w : World) (hA : Ints w w.heap.size 4 A n F) :
    Calls Try.prog 21 #[.slice A n c, .int .i64 most] w (PairAt (fl (pf n F most) n).length (fun i => (((fl (pf n F most) n).getD i 0 : Nat) : Int)) 0 w) := by
  obtain ⟨i0, hi0, hz0, hz1, hz2⟩ := info_parts info_int
  have HI := Lib.hid (And.intro hi0 (And.intro hz0 (And.intro hz1 hz2)))
  clear hi0 hz0 hz1 hz2
  have HA := Lib.hid hA
  have HO := Lib.hid ho
  have C := Lib.hid (fun w h => spec_code A n c F most hn w h)
  rw [hc] at C
  clear hA ho hc
  have HP : Hid (∀ i, pf n F most i = farB (F i) (md n F) most) := Lib.hid fun _ => rfl
  generalize pf n F most = p at HP ⊢
  go_enter Try.func21, Try.ntmps21
  go_wp2_with fail
  refine (C.out _ HA.out).mono ?_
  rintro e w1 ⟨rfl, b1⟩
  have HB1 := Lib.hid b1
  clear b1 C
  go_wp2_with fail
  go_loopw [7, 8] (fun o i wr => ∃ (k : Nat) (v : Value), k ≤ n ∧ v = o ∧ i = .int .i64 k ∧ Below w1.heap.size w1 wr ∧ Hid (wr.ownsRow w1.heap.size 2 1 v (fl p k).length (cl (fl p k)))) (fun _ i _ => n - (intOf i).toNat)
  case atStart => exact ⟨0, _, Nat.zero_le _, rfl, rfl, below_box _ _, Lib.hid (World.ownsRow_made w1 #[] 0 (Nat.le_refl _) (by simp [maxLen]) rfl)⟩
  case round =>
    obtain ⟨k, v, hk, rfl, rfl, hbel, hown⟩ := hrel
    have HB := Lib.hid hbel
    have HAk := Lib.hid ((HA.out.below (below_then HB1.out hbel) (Nat.le_refl _)).more (below_then HB1.out hbel).size)
    clear hbel
    by_cases hlt : k < n
    · have CM := Lib.hid (fun p : Beyond wr => spec_mid A n c F hn h0 p.to ((HAk.out.below p.h (Nat.le_refl _)).more p.h.size))
      have CF := Lib.hid (fun w => spec_far (F k) (md n F) most (okay_mild HO.out hlt) (md_mild HO.out h0) w)
      rw [← HP.out k] at CF
      obtain ⟨b, off, rfl, hb, hc⟩ := HAk.out.2.2 (by omega)
      obtain ⟨x0, x1, x2, x3⟩ := Ints.cells4 hc hlt
      have x0 := bey_cell x0
      have x1 := bey_cell x1
      have x2 := bey_cell x2
      have x3 := bey_cell x3
      have e0 : (0 : Int) ≤ (k : Int) := Int.natCast_nonneg _
      have e1 : (k : Int) < (n : Int) := by omega
      clear hc hb hk
      go_wp2_with fail
      refine wp_region_below (by kernel_rfl) (by kernel_rfl) ?_
      repeat (quiet_step ((first | (go_at_call 61; exact bey_of _ (CM.out _)) | (go_at_call 64; exact bey_of _ (CF.out _)))))
      refine wpQuiet_nil ?_
      rintro _ ⟨pq, rfl⟩
      have HQ := Lib.hid (HB.out.trans (pq.h.mono HB.out.size))
      have HO2 := Lib.hid (row_below hown.out pq.h)
      generalize pq.to = wq at HQ HO2 ⊢
      clear x0 x1 x2 x3
      cases hp : p k
      · have HO3 : Hid (wq.ownsRow w1.heap.size 2 1 v (fl p (k + 1)).length (cl (fl p (k + 1)))) := Lib.hid (by rw [fl_no hp]; exact HO2.out)
        go_wp2_with fail
        go_roundw
        case rel => exact ⟨k + 1, _, by omega, rfl, by go_num, HQ.out, HO3⟩
        case measure => simp [intOf]; omega
      · have hz := HQ.out.size
        have hle := fl_le p k
        go_wp2_with (at_builtin; refine wpList_append_own _ rfl _ _ 33 rfl w1.heap.size 2 i0 _ 1 8 Try.underlying33 HI.out.1 HI.out.2.1 HI.out.2.2.1 HI.out.2.2.2 rfl (by decide) _ _ _ rfl (HO2.out.alloc _) ⟨wq.heap.size, 0, none⟩ 1 1 [.int .i64 (k : Int)] rfl rfl ?c1 ?c2 ?c3 ?c4 ?c5 ?_)
        case c1 => exact cell_one_new _ _ _
        case c2 => simp [Value.oneCell']
        case c3 => unfold maxLen; omega
        case c4 => omega
        case c5 => first | omega | (simp <;> omega)
        intro v' w4 hown4 hgrow _
        have HQ4 := Lib.hid ((HQ.out.alloc hz _).grown hgrow (by simp; omega) fun g hg => (HO2.out.lt g hg).1)
        have HO4 : Hid (w4.ownsRow w1.heap.size 2 1 v' (fl p (k + 1)).length (cl (fl p (k + 1)))) := Lib.hid (by rw [fl_yes hp, cl_snoc, List.length_append]; exact hown4)
        clear hown4 hgrow
        go_wp2_with fail
        go_roundw
        case rel => exact ⟨k + 1, _, by omega, rfl, by go_num, HQ4.out, HO4⟩
        case measure => simp [intOf]; omega
    · obtain rfl : k = n := by omega
      obtain ⟨A', cap', hv, ho', hb'⟩ := col_of_places hown.out HB.out
      obtain rfl : v = .slice A' _ cap' := by injection hv
      have HF := Lib.hid ho'
      clear ho' hb' hv
      go_wp2_with fail
      exact bodyPost_ret (v := .tuple #[.slice A' _ cap', .int .i64 0]) (by simp [results, Try.results21, go_sem]) rfl ⟨A', cap', rfl, Lib.hid (fun hp => by
        obtain ⟨b, off, e, h1, h2, h3, h4⟩ := HF.out hp
        exact ⟨b, off, e, by have := HB1.out.size; omega, h2, h3, h4⟩), below_then HB1.out HB.out⟩

theorem spec_far_no (A : Option Addr) (n c : Nat) (F : Nat → Nat → Int) (most : Int) (hn : n ≤ 1048576) (hc : (codeOf n F most != 0) = true) (w : World) (hA : Ints w w.heap.size 4 A n F) :
    Calls Try.prog 21 #[.slice A n c, .int .i64 most] w (PairAt 0 (fun _ => 0) (codeOf n F most) w) := by
  have HA := Lib.hid hA
  have C := Lib.hid (fun w h => spec_code A n c F most hn w h)
  clear hA
  generalize codeOf n F most = cd at hc C ⊢
  go_enter Try.func21, Try.ntmps21
  go_wp2_with fail
  refine (C.out _ HA.out).mono ?_
  rintro e w1 ⟨rfl, b1⟩
  have HB1 := Lib.hid b1
  clear b1
  go_wp2_with fail
  exact bodyPost_ret (v := .tuple #[.slice none 0 0, .int .i64 cd]) (by simp [results, Try.results21, go_sem]) rfl ⟨none, 0, rfl, Lib.hid fun h => absurd h (by omega), HB1.out⟩
theorem impl_far_no (A : Option Addr) (n c : Nat) (F : Nat → Nat → Int) (most : Int) (hn : n ≤ 1048576) (hc : (codeOf n F most != 0) = true) (w : World) (hA : Ints w w.heap.size 4 A n F) :
    Calls Try.prog 22 #[.slice A n c, .int .i64 most] w (PairAt 0 (fun _ => 0) (codeOf n F most) w) := by
  have HA := Lib.hid hA
  have C := Lib.hid (fun w h => impl_code A n c F most hn w h)
  clear hA
  generalize codeOf n F most = cd at hc C ⊢
  go_enter Try.func22, Try.ntmps22
  go_wp2_with fail
  refine (C.out _ HA.out).mono ?_
  rintro e w1 ⟨rfl, b1⟩
  have HB1 := Lib.hid b1
  clear b1
  go_wp2_with fail
  exact bodyPost_ret (v := .tuple #[.slice none 0 0, .int .i64 cd]) (by simp [results, Try.results22, go_sem]) rfl ⟨none, 0, rfl, Lib.hid fun h => absurd h (by omega), HB1.out⟩

set_option maxRecDepth 100000 in
theorem impl_far_yes (A : Option Addr) (n c : Nat) (F : Nat → Nat → Int) (most : Int) (hn : n ≤ 1048576) (hc : codeOf n F most = 0) (h0 : 0 < n) (ho : Okay n F) (w : World) (hA : Ints w w.heap.size 4 A n F) :
    Calls Try.prog 22 #[.slice A n c, .int .i64 most] w (PairAt (fl (pf n F most) n).length (fun i => (((fl (pf n F most) n).getD i 0 : Nat) : Int)) 0 w) := by
  obtain ⟨i0, hi0, hz0, hz1, hz2⟩ := info_parts info_int
  have HI := Lib.hid (And.intro hi0 (And.intro hz0 (And.intro hz1 hz2)))
  clear hi0 hz0 hz1 hz2
  have HA := Lib.hid hA
  have HO := Lib.hid ho
  have C := Lib.hid (fun w h => impl_code A n c F most hn w h)
  rw [hc] at C
  clear hA ho hc
  have HP : Hid (∀ i, pf n F most i = farB (F i) (md n F) most) := Lib.hid fun _ => rfl
  generalize pf n F most = p at HP ⊢
  go_enter Try.func22, Try.ntmps22
  go_wp2_with fail
  refine (C.out _ HA.out).mono ?_
  rintro e w1 ⟨rfl, b1⟩
  have HB1 := Lib.hid b1
  clear b1 C
  go_wp2_with fail
  refine (impl_mid A n c F hn h0 _ ((HA.out.below HB1.out (Nat.le_refl _)).more HB1.out.size)).mono ?_
  rintro e w2 ⟨rfl, b2⟩
  have HB2 := Lib.hid (below_then HB1.out b2)
  clear b2 HB1
  go_wp2_with fail
  have KC := Lib.hid (heap_alloc_new w2 (.cells #[.int .i64 (md n F 0), .int .i64 (md n F 1), .int .i64 (md n F 2), .int .i64 (md n F 3)] 25))
  have HB1 := Lib.hid (HB2.out.alloc HB2.out.size (.cells #[.int .i64 (md n F 0), .int .i64 (md n F 1), .int .i64 (md n F 2), .int .i64 (md n F 3)] 25))
  generalize w2.alloc (.cells #[.int .i64 (md n F 0), .int .i64 (md n F 1), .int .i64 (md n F 2), .int .i64 (md n F 3)] 25) = w1 at KC HB1 ⊢
  go_loopw [8, 9, 10, 21] (fun o _ _ i wr => ∃ (k : Nat) (v : Value), k ≤ n ∧ v = o ∧ i = .int .i64 k ∧ Below w1.heap.size w1 wr ∧ Hid (wr.ownsRow w1.heap.size 2 1 v (fl p k).length (cl (fl p k)))) (fun _ _ _ i _ => n - (intOf i).toNat)
  case atStart => exact ⟨0, _, Nat.zero_le _, rfl, rfl, Below.refl _ _, Lib.hid (World.ownsRow_nil _ _ _ _)⟩
  case round =>
    obtain ⟨k, v, hk, rfl, rfl, hbel, hown⟩ := hrel
    have HB := Lib.hid hbel
    have HAk := Lib.hid ((HA.out.below (below_then HB1.out hbel) (Nat.le_refl _)).more (below_then HB1.out hbel).size)
    have KCk := Lib.hid (blk_keep hbel KC.out)
    clear hbel
    by_cases hlt : k < n
    · have CF := Lib.hid (fun w => impl_far (F k) (md n F) most (okay_mild HO.out hlt) (md_mild HO.out h0) w)
      rw [← HP.out k] at CF
      obtain ⟨b, off, rfl, hb, hc⟩ := HAk.out.2.2 (by omega)
      obtain ⟨x0, x1, x2, x3⟩ := Ints.cells4 hc hlt
      obtain ⟨y0, y1, y2, y3⟩ := blk4 KCk.out
      have lc := lt_of_heap KCk.out
      have hz0 := HB.out.size
      clear hc hk
      go_wp2_with fail
      refine (CF.out _).mono ?_
      rintro e wq ⟨rfl, bq⟩
      have HQ := Lib.hid (HB.out.trans ((below_then (below_box _ _) bq).mono HB.out.size))
      have HO2 := Lib.hid (row_below hown.out (below_then (below_box _ _) bq))
      clear x0 x1 x2 x3 y0 y1 y2 y3 bq hz0
      cases hp : p k
      · have HO3 : Hid (wq.ownsRow w1.heap.size 2 1 v (fl p (k + 1)).length (cl (fl p (k + 1)))) := Lib.hid (by rw [fl_no hp]; exact HO2.out)
        go_wp2_with fail
        go_roundw
        case rel => exact ⟨k + 1, _, by omega, rfl, by go_num, HQ.out, HO3⟩
        case measure => simp [intOf]; omega
      · have hz := HQ.out.size
        have hle := fl_le p k
        go_wp2_with (at_builtin; refine wpList_append_own _ rfl _ _ 33 rfl w1.heap.size 2 i0 _ 1 8 Try.underlying33 HI.out.1 HI.out.2.1 HI.out.2.2.1 HI.out.2.2.2 rfl (by decide) _ _ _ rfl (HO2.out.alloc _) ⟨wq.heap.size, 0, none⟩ 1 1 [.int .i64 (k : Int)] rfl rfl ?c1 ?c2 ?c3 ?c4 ?c5 ?_)
        case c1 => exact cell_one_new _ _ _
        case c2 => simp [Value.oneCell']
        case c3 => unfold maxLen; omega
        case c4 => omega
        case c5 => first | omega | (simp <;> omega)
        intro v' w4 hown4 hgrow _
        have HQ4 := Lib.hid ((HQ.out.alloc hz _).grown hgrow (by simp; omega) fun g hg => (HO2.out.lt g hg).1)
        have HO4 : Hid (w4.ownsRow w1.heap.size 2 1 v' (fl p (k + 1)).length (cl (fl p (k + 1)))) := Lib.hid (by rw [fl_yes hp, cl_snoc, List.length_append]; exact hown4)
        clear hown4 hgrow
        go_wp2_with fail
        go_roundw
        case rel => exact ⟨k + 1, _, by omega, rfl, by go_num, HQ4.out, HO4⟩
        case measure => simp [intOf]; omega
    · obtain rfl : k = n := by omega
      obtain ⟨A', cap', hv, ho', hb'⟩ := col_of_places hown.out HB.out
      obtain rfl : v = .slice A' _ cap' := by injection hv
      have HF := Lib.hid ho'
      clear ho' hb' hv
      go_wp2_with fail
      exact bodyPost_ret (v := .tuple #[.slice A' _ cap', .int .i64 0]) (by simp [results, Try.results22, go_sem]) rfl ⟨A', cap', rfl, Lib.hid (fun hp => by
        obtain ⟨b, off, e, h1, h2, h3, h4⟩ := HF.out hp
        exact ⟨b, off, e, by have := HB1.out.size; omega, h2, h3, h4⟩), below_then HB1.out HB.out⟩
end Go.Proofs.Ytoincfhhafpekaa.Fl
