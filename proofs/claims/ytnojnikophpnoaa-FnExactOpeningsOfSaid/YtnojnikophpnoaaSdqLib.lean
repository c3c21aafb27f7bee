/- SeamDifferences: spec and program; what toldOf hands on. -/
import Derived.Test.YtnojnikophpnoaaVqLib
import Derived.Test.YtnojnikophpnoaaBwLib
import Derived.StillTailTactics
namespace Go.Proofs.Ytnojnikophpnoaa.Sdq
set_option linter.unusedVariables false
open Go.RowKit Go.Maps Ft Is Ge Qb Pt Pv Za Mm Zb Zc Zd Vq

def ab (x : Int) : Int := if x < 0 then -x else x
theorem s_size (x : Int) (h : -100000 ≤ x ∧ x ≤ 100000) (w : World) : Calls Try.prog 94 #[.int .i64 x] w fun e w' => e = .returned (.int .i64 (ab x)) ∧ w = w' := by
  unfold ab
  by_cases q : x < 0
  · rw [if_pos q]
    go_enter Try.func94, Try.ntmps94
    go_wp2
    go_ret
    exact ⟨rfl, rfl⟩
  · rw [if_neg q]
    go_enter Try.func94, Try.ntmps94
    go_wp2
    go_ret
    exact ⟨rfl, rfl⟩
theorem i_dist (a b : Int) (ha : 0 ≤ a ∧ a ≤ 10000) (hb : 0 ≤ b ∧ b ≤ 10000) (w : World) : Calls Try.prog 97 #[.int .i64 a, .int .i64 b] w fun e w' => e = .returned (.int .i64 (ab (a - b))) ∧ w' = w := by
  unfold ab
  by_cases h : a - b < 0
  · rw [if_pos h]
    have n1 : ¬ (b < a) := by omega
    have n2 : a ≤ b := by omega
    have n3 : a < b := by omega
    go_enter Try.func97, Try.ntmps97
    go_wp2
    go_ret
    exact ⟨ret_int (by omega), rfl⟩
  · rw [if_neg h]
    have n1 : ¬ (a < b) := by omega
    have n2 : b ≤ a := by omega
    by_cases h2 : b < a
    · go_enter Try.func97, Try.ntmps97
      go_wp2
      go_ret
      exact ⟨ret_int (by omega), rfl⟩
    · have e : a = b := by omega
      subst e
      go_enter Try.func97, Try.ntmps97
      go_wp2
      go_ret
      exact ⟨ret_int (by omega), rfl⟩
/-- A new list of numbers, and a code. -/
def PairAt (n : Nat) (d : Nat → Int) (c : Int) (w : World) (e : Ending) (w' : World) : Prop := ∃ A cap, e = .returned (.tuple #[.slice A n cap, .int .i64 c]) ∧ Hid (Own w' w.heap.size A n d) ∧ Below w.heap.size w w'
/-- A new list of numbers. -/
def OneAt (n : Nat) (d : Nat → Int) (w : World) (e : Ending) (w' : World) : Prop := ∃ A cap, e = .returned (.slice A n cap) ∧ Hid (Own w' w.heap.size A n d) ∧ Below w.heap.size w w'
theorem own_of_row {n : Nat} {f : Nat → Int} {w' : World} {B : Nat} {v : Value} (h : w'.ownsRow B 2 1 v n (upto f n)) : ∃ A cap, v = .slice A n cap ∧ Own w' B A n f := by
  rcases h.2 with ⟨rfl, rfl⟩ | ⟨g, cap, cur, rfl, hbg, hh, _⟩
  · exact ⟨none, 0, rfl, fun h => absurd h (by omega)⟩
  · exact ⟨_, cap, rfl, fun _ => ⟨g, 0, rfl, hbg, lt_of_heap hh, fun i hi => by rw [Nat.zero_add]; exact (h.cellAt i (by omega)).trans (upto_get f hi), fun i => blk_free hh i⟩⟩
theorem one_of_row {n : Nat} {f : Nat → Int} {w w0 w' : World} {v : Value} (h : w'.ownsRow w0.heap.size 2 1 v n (upto f n)) (h0 : Below w.heap.size w w0) (hb : Below w0.heap.size w0 w') : OneAt n f w (.returned v) w' := by
  obtain ⟨A, cap, rfl, ho⟩ := own_of_row h
  exact ⟨A, cap, rfl, Lib.hid (Bw.own_later ho h0.size), below_then h0 hb⟩
theorem pair_of_row {n : Nat} {f : Nat → Int} {w w0 w' : World} {v : Value} (h : w'.ownsRow w0.heap.size 2 1 v n (upto f n)) (h0 : Below w.heap.size w w0) (hb : Below w0.heap.size w0 w') : PairAt n f 0 w (.returned (.tuple #[v, .int .i64 0])) w' := by
  obtain ⟨A, cap, rfl, ho⟩ := own_of_row h
  exact ⟨A, cap, rfl, Lib.hid (Bw.own_later ho h0.size), below_then h0 hb⟩
theorem pair_no {w w' : World} {c : Int} (hb : Below w.heap.size w w') (d : Nat → Int) : PairAt 0 d c w (.returned (.tuple #[.slice none 0 0, .int .i64 c])) w' := ⟨none, 0, rfl, Lib.hid fun h => absurd h (by omega), hb⟩
/-- The code of a pattern. -/
noncomputable def vC (n : Nat) (N : Nat → ByteArray) (ms : Nat → Nat) (ds : Nat → Nat → Int) (k : Nat) (S : Nat → Int) (o : Int) : Int := if tv (PatP n N ms ds k S o) = true then 0 else 1
noncomputable def vM (n : Nat) (N : Nat → ByteArray) (ms : Nat → Nat) (ds : Nat → Nat → Int) (k : Nat) (S : Nat → Int) (o : Int) (m : Nat) : Nat := if tv (PatP n N ms ds k S o) = true then m else 0
theorem vm_le {n : Nat} {N : Nat → ByteArray} {ms : Nat → Nat} {ds : Nat → Nat → Int} {k : Nat} {S : Nat → Int} {o : Int} {m B : Nat} (h : m ≤ B) : vM n N ms ds k S o m ≤ B := by
  unfold vM; split <;> omega
/-- What all of a valid pattern's parts are. -/
theorem pat_in {n : Nat} {N : Nat → ByteArray} {ms : Nat → Nat} {ds : Nat → Nat → Int} {k : Nat} {S : Nat → Int} {o : Int} (h : PatP n N ms ds k S o) : n ≤ 10 ∧ (∀ i, i < n → 3 ≤ ms i ∧ ms i ≤ 8) ∧ (∀ i j, i < n → j < ms i → 1 ≤ ds i j ∧ ds i j ≤ 10000) ∧ ∀ j, j < k → ((endA S j).1 < n ∧ (endA S j).2 < ms (endA S j).1) ∧ ((endB S j).1 < n ∧ (endB S j).2 < ms (endB S j).1) := by
  refine ⟨?_, fun i hi => (h.1 i hi).2.1, fun i j hi hj => ?_, fun j hj => ?_⟩
  · have := h.2.1.1; unfold inB at this; simp at this; omega
  · have := (h.1 i hi).2.2 j hj; unfold inB at this; simpa using this
  · have sd := sd_iff.1 (h.2.2 j hj).1
    unfold endA endB; simp; omega
/-- The differences of seams. -/
def dfD (ds : Nat → Nat → Int) (S : Nat → Int) (j : Nat) : Int := ab (ds (endA S j).1 (endA S j).2 - ds (endB S j).1 (endB S j).2)
set_option maxRecDepth 100000 in
set_option maxHeartbeats 2000000 in
theorem s_diff (g : Nat) (A : Option Addr) (n c : Nat) (N : Nat → ByteArray) (ms : Nat → Nat) (ds : Nat → Nat → Int) (Y : Option Addr) (k sc : Nat) (S : Nat → Int) (o : Int) (hz : Small n N ms k) (hP : PatP n N ms ds k S o) (j : Nat) (hj : j < k) (w : World) (h : Boxed w g A n c N ms ds Y k sc S o) :
    Calls Try.prog 57 #[.pointer (some ⟨g, 0, none⟩), seV (S (j * 4)) (S (j * 4 + 1)) (S (j * 4 + 2)) (S (j * 4 + 3))] w fun e' w' => e' = .returned (.int .i64 (dfD ds S j)) ∧ Below w.heap.size w w' := by
  obtain ⟨p1, p2, p3, p4⟩ := pat_in hP
  obtain ⟨⟨a1, a2⟩, b1, b2⟩ := p4 j hj
  obtain ⟨i1, i2, i3, i4⟩ := endA_int (hP.2.2 j hj).1
  have d1 := p3 _ _ a1 a2
  have d2 := p3 _ _ b1 b2
  have m1 := (p2 _ a1).2
  have m2 := (p2 _ b1).2
  have HD : Hid (dfD ds S j = ab (ds (endA S j).1 (endA S j).2 - ds (endB S j).1 (endB S j).2)) := Lib.hid rfl
  obtain ⟨As, cs, hR⟩ := h.pat.pcs
  obtain ⟨bp, op, rfl, hbp, hc⟩ := hR.out (by omega)
  obtain ⟨ba, oa, eA, hba, hca⟩ := hR.inn (endA S j).1 a1 (by omega)
  obtain ⟨bb, ob, eB, hbb, hcb⟩ := hR.inn (endB S j).1 b1 (by omega)
  have u1 := (hc (endA S j).1 a1).2
  have u2 := (hc (endB S j).1 b1).2
  have v1 := hca _ a2
  have v2 := hcb _ b2
  obtain ⟨x0, _, _⟩ := blk3 h.blk
  rw [eA] at u1
  rw [eB] at u2
  rw [← i1, ← i2, ← i3, ← i4]
  have BB := Lib.hid (below_box w (.cells #[.int .i64 ((endA S j).1 : Int), .int .i64 ((endA S j).2 : Int), .int .i64 ((endB S j).1 : Int), .int .i64 ((endB S j).2 : Int)] 51))
  have KB := Lib.hid (heap_alloc_new w (.cells #[.int .i64 ((endA S j).1 : Int), .int .i64 ((endA S j).2 : Int), .int .i64 ((endB S j).1 : Int), .int .i64 ((endB S j).2 : Int)] 51))
  clear h hR hc hca hcb i1 i2 i3 i4 p1 p2 p3 p4 hP
  generalize dfD ds S j = D at HD ⊢
  generalize ms (endA S j).1 = ma at a2 u1 m1
  generalize ms (endB S j).1 = mb at b2 u2 m2
  generalize cs (endA S j).1 = ca at u1
  generalize cs (endB S j).1 = cb at u2
  generalize ds (endA S j).1 (endA S j).2 = da at d1 v1 HD
  generalize ds (endB S j).1 (endB S j).2 = db at d2 v2 HD
  generalize (endA S j).1 = q1 at *
  generalize (endA S j).2 = q2 at *
  generalize (endB S j).1 = q3 at *
  generalize (endB S j).2 = q4 at *
  have Z := Lib.hid (fun w => s_size (da - db) (by omega) w)
  obtain ⟨d1a, d1b⟩ := d1
  obtain ⟨d2a, d2b⟩ := d2
  have n1 : (0 : Int) ≤ (q1 : Int) := Int.natCast_nonneg _
  have n2 : (0 : Int) ≤ (q2 : Int) := Int.natCast_nonneg _
  have n3 : (0 : Int) ≤ (q3 : Int) := Int.natCast_nonneg _
  have n4 : (0 : Int) ≤ (q4 : Int) := Int.natCast_nonneg _
  have l1 : (q1 : Int) < (n : Int) := by omega
  have l2 : (q2 : Int) < (ma : Int) := by omega
  have l3 : (q3 : Int) < (n : Int) := by omega
  have l4 : (q4 : Int) < (mb : Int) := by omega
  unfold seV
  go_enter Try.func57, Try.ntmps57
  go_upto_region 1 with fail
  generalize hw0 : w.alloc _ = wz at KB BB ⊢
  clear hw0
  obtain ⟨s0, s1, s2, s3⟩ := blk4 KB.out
  have keep : ∀ {b o v}, w.cell? ⟨b, o, none⟩ = some v → wz.cell? ⟨b, o, none⟩ = some v := fun h => (BB.out.cell (p := ⟨_, _, none⟩) (World.block_lt_of_cell? w _ h)).trans h
  have x0 := bey_cell (keep x0)
  have u1 := bey_cell (keep u1)
  have u2 := bey_cell (keep u2)
  have v1 := bey_cell (keep v1)
  have v2 := bey_cell (keep v2)
  have s0 := bey_cell s0
  have s1 := bey_cell s1
  have s2 := bey_cell s2
  have s3 := bey_cell s3
  clear keep
  refine wp_region_below (by kernel_rfl) (by kernel_rfl) ?_
  repeat (go_big_quiet_step (first | (go_at_call 94; with_reducible exact bey_same _ (Z.out _))))
  refine wpQuiet_nil ?_
  rintro _ ⟨pq, rfl⟩
  have HQ := Lib.hid (below_then BB.out pq.h)
  generalize pq.to = wq at HQ ⊢
  clear x0 u1 u2 v1 v2 s0 s1 s2 s3
  go_wp2_with fail
  go_ret
  exact ⟨ret_int HD.out.symm, HQ.out⟩
set_option maxRecDepth 100000 in
set_option maxHeartbeats 2000000 in
theorem spec_sd (A : Option Addr) (n c : Nat) (N : Nat → ByteArray) (ms : Nat → Nat) (ds : Nat → Nat → Int) (Y : Option Addr) (k sc : Nat) (S : Nat → Int) (o : Int) (hz : Small n N ms k) (w : World) (h : PatR w A n N ms ds Y k S) :
    Calls Try.prog 20 #[paV A n c Y k sc o] w (PairAt (vM n N ms ds k S o k) (dfD ds S) (vC n N ms ds k S o) w) := by
  obtain ⟨_, hk, _⟩ := hz.at
  have HB := Lib.hid (below_box w (.cells #[.slice A n c, .slice Y k sc, .int .i64 o] 31))
  have HX := Lib.hid (Boxed.mk (c := c) (sc := sc) (o := o) (heap_alloc_new w (.cells #[.slice A n c, .slice Y k sc, .int .i64 o] 31)) (h.below HB.out))
  have C := Lib.hid (ok w.heap.size A n c N ms ds Y k sc S o hz _ HX.out)
  unfold paV vM vC
  by_cases hP : PatP n N ms ds k S o
  · rw [tv_yes hP] at C ⊢
    simp only [if_true]
    have CD : Hid (∀ j, j < k → ∀ W, Boxed W w.heap.size A n c N ms ds Y k sc S o → Calls Try.prog 57 #[.pointer (some ⟨w.heap.size, 0, none⟩), seV (S (j * 4)) (S (j * 4 + 1)) (S (j * 4 + 2)) (S (j * 4 + 3))] W fun e' w' => e' = .returned (.int .i64 (dfD ds S j)) ∧ Below W.heap.size W w') := Lib.hid fun j hj W hW => s_diff w.heap.size A n c N ms ds Y k sc S o hz hP j hj W hW
    have HU : Hid (∀ j, upto (dfD ds S) (j + 1) = upto (dfD ds S) j ++ [.int .i64 (dfD ds S j)]) := Lib.hid fun j => upto_snoc _ _
    have HU0 : Hid (upto (dfD ds S) 0 = []) := Lib.hid rfl
    have HF : Hid (∀ v w1 w', w'.ownsRow w1.heap.size 2 1 v k (upto (dfD ds S) k) → Below w.heap.size w w1 → Below w1.heap.size w1 w' → PairAt k (dfD ds S) 0 w (.returned (.tuple #[v, .int .i64 0])) w') := Lib.hid fun v w1 w' h1 h2 h3 => pair_of_row h1 h2 h3
    obtain ⟨i0, hi0, hz0, hz1, hz2⟩ := info_parts info_int
    have HI := Lib.hid (And.intro hi0 (And.intro hz0 (And.intro hz1 hz2)))
    clear h hz hP hi0 hz0 hz1 hz2
    generalize PairAt k (dfD ds S) 0 w = Q at HF ⊢
    generalize upto (dfD ds S) = UP at HU HU0 HF
    generalize dfD ds S = D at CD HU
    go_enter Try.func20, Try.ntmps20
    go_wp2_with fail
    refine C.out.mono ?_
    rintro e w1 ⟨rfl, b1⟩
    have HX1 := Lib.hid (HX.out.below b1)
    have HB1 := Lib.hid (below_then HB.out b1)
    clear b1 C HX HB
    go_wp2_with fail
    have B0 := Lib.hid (below_box w1 (.cells #[] 2))
    have O0 : Hid ((w1.alloc (.cells #[] 2)).ownsRow w1.heap.size 2 1 (.slice (some ⟨w1.heap.size, 0, none⟩) 0 0) 0 (UP 0)) := Lib.hid (by
      rw [HU0.out]
      exact ⟨rfl, .inr ⟨_, 0, _, rfl, Nat.le_refl _, heap_alloc_new _ _, by omega, by unfold maxLen; omega, rfl, rfl⟩⟩)
    go_loopw [4, 5] (fun v i wr => ∃ (j : Nat) (u : Value), j ≤ k ∧ u = v ∧ i = .int .i64 (j : Int) ∧ Hid (Below w1.heap.size w1 wr) ∧ Hid (wr.ownsRow w1.heap.size 2 1 u j (UP j))) (fun _ i _ => k - (intOf i).toNat)
    case atStart => exact ⟨0, _, Nat.zero_le _, rfl, rfl, B0, O0⟩
    case round =>
      obtain ⟨j, v, hj, rfl, rfl, HW, HO⟩ := hrel
      have e0 : (0 : Int) ≤ (j : Int) := Int.natCast_nonneg _
      have HXr := Lib.hid (HX1.out.below HW.out)
      obtain ⟨x0, x1, x2⟩ := blk3 HXr.out.blk
      have hsz := HW.out.size
      by_cases hlt : j < k
      · obtain ⟨b1, o1, rfl, hb1, hc1⟩ := HXr.out.pat.seams (by omega)
        obtain ⟨u0, u1, u2, u3⟩ := four_cells hc1 hlt
        have e1 : (j : Int) < (k : Int) := by omega
        have hj1 : j + 1 ≤ k := by omega
        have CJ := Lib.hid (CD.out j hlt wr HXr.out)
        unfold seV at CJ
        have HUj := Lib.hid (HU.out j)
        generalize D j = dj at CJ HUj
        generalize S (j * 4) = p0, S (j * 4 + 1) = p1, S (j * 4 + 2) = p2, S (j * 4 + 3) = p3 at u0 u1 u2 u3 CJ
        clear hc1 hj
        go_wp2_with fail
        refine CJ.out.mono ?_
        rintro e w2 ⟨rfl, b2⟩
        have HW2 := Lib.hid (below_then HW.out b2)
        have HO2 := Lib.hid (Ge.row_below HO.out b2)
        have hsz2 := HW2.out.size
        clear b2 x0 x1 x2 u0 u1 u2 u3 CJ HO
        go_wp2_with (at_builtin; refine wpList_append_own _ rfl _ _ 36 rfl w1.heap.size 2 i0 _ 1 8 Try.underlying36 HI.out.1 HI.out.2.1 HI.out.2.2.1 HI.out.2.2.2 rfl (by decide) _ _ _ rfl (HO2.out.alloc _) ⟨w2.heap.size, 0, none⟩ 1 1 [.int .i64 dj] rfl rfl ?c1 ?c2 ?c3 ?c4 ?c5 ?_)
        case c1 =>
          intro q u hu
          rw [Addr.add_lit, Nat.zero_add]
          exact (cell_of_row _ _ q _ _ _ (heap_alloc_new w2 _)).trans (by simpa using hu)
        case c2 => simp [Value.oneCell']
        case c3 => unfold maxLen; omega
        case c4 => omega
        case c5 => first | omega | (simp <;> omega)
        intro v' w6 hown2 hgrow _
        have HQ := Lib.hid ((HW2.out.alloc hsz2 _).grown hgrow (by simp; omega) fun g hg => (HO2.out.lt g hg).1)
        have HO6 : Hid (w6.ownsRow w1.heap.size 2 1 v' (j + 1) (UP (j + 1))) := Lib.hid (by rw [HUj.out]; exact hown2)
        clear hown2 hgrow
        go_wp2_with fail
        go_roundw
        case rel => exact ⟨j + 1, _, hj1, rfl, by go_num, HQ, HO6⟩
        case measure => simp [intOf]; omega
      · obtain rfl : j = k := by omega
        have e1 : ¬ (j : Int) < (j : Int) := by omega
        have HZ := Lib.hid (HF.out v w1 wr HO.out HB1.out HW.out)
        clear hj HU HU0 HF CD
        go_wp2_with fail
        exact HZ.out
  · rw [tv_no hP] at C ⊢
    simp only [Bool.false_eq_true, if_false]
    clear h hz hP
    generalize dfD ds S = D
    have QN : Hid (∀ W, Below w.heap.size w W → PairAt 0 D 1 w (.returned (.tuple #[.slice none 0 0, .int .i64 1])) W) := Lib.hid fun W h => pair_no (c := 1) h D
    generalize PairAt 0 D 1 w = Q at QN ⊢
    go_enter Try.func20, Try.ntmps20
    go_wp2_with fail
    refine C.out.mono ?_
    rintro e w1 ⟨rfl, b1⟩
    have HZ := Lib.hid (QN.out _ (below_then HB.out b1))
    clear b1 QN
    go_wp2_with fail
    exact HZ.out
set_option maxHeartbeats 2000000 in
theorem told_ints (F : FuncId) (eF : ∀ args w, (callFunc F args).run Try.prog w = .ok (.enter F args) w) (A : Option Addr) (n c : Nat) (N : Nat → ByteArray) (ms : Nat → Nat) (ds : Nat → Nat → Int) (Y : Option Addr) (k sc : Nat) (S : Nat → Int) (o : Int) (m : Nat) (d : Nat → Int) (hz : Small n N ms k) (hw : ∀ i, i < k * 4 → (Lit.int .i64 (S i)).wf = true) (w : World) (h : PatR w A n N ms ds Y k S)
    (hF : PatP n N ms ds k S o → ∀ B W ea el ec bm P g, PatR W A n N ms ds Y k S → Surf B n ms ds (plc ms n) (plc ms n) (mate S k) (.slice ea el ec) bm P g W → Calls Try.prog F #[sfV A n c Y k sc o (.slice ea el ec) bm] W (OneAt m d W)) :
    Calls Try.prog 58 #[paV A n c Y k sc o, .func (.func F) #[] #[]] w (PairAt (vM n N ms ds k S o m) d (vC n N ms ds k S o) w) := by
  have HB := Lib.hid (below_box w (.cells #[.slice A n c, .slice Y k sc, .int .i64 o] 31))
  have C := Lib.hid ((surface_of A n c N ms ds Y k sc S o hz hw _ (h.below HB.out)).mono fun _ _ h => SfAt.cases h)
  have HR := Lib.hid h
  have HF := Lib.hid hF
  have HT : Hid (tv (PatP n N ms ds k S o) = true → PatP n N ms ds k S o) := Lib.hid fun h => tv_iff.1 h
  have QN : Hid (tv (PatP n N ms ds k S o) = false → ∀ W, Below w.heap.size w W → PairAt (vM n N ms ds k S o m) d (vC n N ms ds k S o) w (.returned (.tuple #[.slice none 0 0, .int .i64 1])) W) := Lib.hid fun e W h => by
    unfold vM vC; rw [e]; exact pair_no h d
  have QY : Hid (tv (PatP n N ms ds k S o) = true → ∀ W A' cap, Own W w.heap.size A' m d → Below w.heap.size w W → PairAt (vM n N ms ds k S o m) d (vC n N ms ds k S o) w (.returned (.tuple #[.slice A' m cap, .int .i64 0])) W) := Lib.hid fun e W A' cap h1 h2 => by
    unfold vM vC; rw [e]; exact ⟨A', cap, rfl, Lib.hid h1, h2⟩
  clear h hF
  generalize PairAt (vM n N ms ds k S o m) d (vC n N ms ds k S o) w = Q at QN QY ⊢
  unfold paV
  unfold paV sfZ sfV at C
  unfold sfV at HF
  generalize tv (PatP n N ms ds k S o) = r at C HT QN QY
  go_enter Try.func58, Try.ntmps58
  go_wp2_with fail
  refine C.out.mono ?_
  rintro e w1 ⟨b1, ⟨rfl, rfl⟩ | ⟨rfl, ea, el, ec, bm, P, g, rfl, HS⟩⟩
  · have HQ := Lib.hid (below_then HB.out b1)
    have HA := Lib.hid (QN.out rfl _ (HQ.out.alloc HQ.out.size (suC (.slice none 0 0) (.slice none 0 0) (.int .i64 0) (.slice none 0 0) (.map none))))
    clear b1 C HF HT QN QY
    go_wp2_with fail
    exact HA.out
  · have HQ := Lib.hid (below_then HB.out b1)
    have BX := Lib.hid (below_box w1 (suC (.slice A n c) (.slice Y k sc) (.int .i64 o) (.slice ea el ec) (.map (some bm))))
    have HQ2 := Lib.hid (below_then HQ.out BX.out)
    have CF := Lib.hid (HF.out (HT.out rfl) _ _ ea el ec bm P g (HR.out.below HQ2.out) (HS.out.below BX.out))
    have QYY := Lib.hid (QY.out rfl)
    clear b1 C HF HT HS QN QY
    go_wp2_with fail
    refine CF.out.mono ?_
    rintro e w2 ⟨A2, cap, rfl, HO, b2⟩
    have HE := Lib.hid (QYY.out w2 A2 cap (Bw.own_later HO.out HQ2.out.size) (below_then HQ2.out b2))
    clear b2 QYY
    go_wp2_with fail
    exact HE.out
end Go.Proofs.Ytnojnikophpnoaa.Sdq
