/- PartsOf: the spec's join and parts; both functions. -/
import Derived.Test.YtpmmfalpcooenabUhLib
import Derived.StillTailTactics
namespace Go.Proofs.Ytpmmfalpcooenab.Uk
set_option linter.unusedVariables false
open Go.RowKit Go.Maps Ft Is Ge Qb Pt Pv Za Mm Zb Zc Zd Vq Sdq Sdu Uf Ug Uh

theorem s_min (a b : Int) (w : World) : Calls Try.prog 81 #[.int .i64 a, .int .i64 b] w fun e w' => e = .returned (.int .i64 (min a b)) ∧ w = w' := by
  by_cases h : a < b
  · rw [show min a b = a by omega]
    go_enter Try.func81, Try.ntmps81
    go_wp2
    go_ret
    exact ⟨rfl, rfl⟩
  · rw [show min a b = b by omega]
    go_enter Try.func81, Try.ntmps81
    go_wp2
    go_ret
    exact ⟨rfl, rfl⟩
/-- A list of which the first j are joined. -/
def jn (f : Nat → Int) (a b : Int) (i : Nat) : Int := if f i = a ∨ f i = b then min a b else f i
def pj (f : Nat → Int) (a b : Int) (j i : Nat) : Int := if i < j then jn f a b i else f i
theorem pj_no {w : World} {g n j : Nat} {f : Nat → Int} {a b : Int} (h : At w g n (pj f a b j)) (h1 : ¬ f j = a) (h2 : ¬ f j = b) : At w g n (pj f a b (j + 1)) :=
  ⟨h.1, fun i hi => by
    rw [h.2.1 i hi]
    unfold pj
    by_cases e : i = j
    · subst e
      rw [if_neg (by omega), if_pos (by omega)]
      unfold jn
      rw [if_neg (by omega)]
    · by_cases e2 : i < j
      · rw [if_pos e2, if_pos (by omega)]
      · rw [if_neg e2, if_neg (by omega)], h.2.2⟩
theorem pj_yes {w : World} {g n j : Nat} {f : Nat → Int} {a b : Int} (h : At w g n (pj f a b j)) (hj : j < n) (h1 : f j = a ∨ f j = b) : At (w.setCell ⟨g, j, none⟩ (.int .i64 (min a b))) g n (pj f a b (j + 1)) :=
  ⟨by simpa using h.1, fun i hi => by
    by_cases e : i = j
    · subst e
      rw [World.cell?_setCell_same _ _ _ (h.2.1 i hi)]
      unfold pj
      rw [if_pos (by omega)]
      unfold jn
      rw [if_pos h1]
    · rw [World.cell?_setCell_other _ _ _ _ (show (⟨g, j, none⟩ : Addr) ≠ ⟨g, i, none⟩ from fun q => by have := (Addr.mk.inj q).2.1; omega), h.2.1 i hi]
      unfold pj
      by_cases e2 : i < j
      · rw [if_pos e2, if_pos (by omega)]
      · rw [if_neg e2, if_neg (by omega)], fun i => (World.frozen?_setCell _ _ _ _).trans (h.2.2 i)⟩
set_option maxRecDepth 100000 in
set_option maxHeartbeats 2000000 in
theorem s_join (g n cap : Nat) (f : Nat → Int) (a b : Int) (hn : n ≤ 1048576) (w : World) (h : At w g n f) :
    Calls Try.prog 160 #[.slice (some ⟨g, 0, none⟩) n cap, .int .i64 a, .int .i64 b] w fun e w' => e = .returned (.tuple #[]) ∧ At w' g n (jn f a b) ∧ Bw.But g w w' := by
  have CM := Lib.hid (s_min a b w)
  have H0 : Hid (At w g n (pj f a b 0)) := Lib.hid ⟨h.1, fun i hi => by rw [h.2.1 i hi]; simp [pj], h.2.2⟩
  have HE : Hid (∀ w', At w' g n (pj f a b n) → At w' g n (jn f a b)) := Lib.hid fun w' ho => ⟨ho.1, fun i hi => by rw [ho.2.1 i hi]; simp [pj, hi], ho.2.2⟩
  have HC : Hid (∀ wr j, j < n → At wr g n (pj f a b j) → wr.cell? ⟨g, j, none⟩ = some (.int .i64 (f j)) ∧ wr.frozen? ⟨g, j, none⟩ = false ∧ g < wr.heap.size) := Lib.hid fun wr j hj ha => ⟨by rw [ha.2.1 j hj]; simp [pj], ha.2.2 j, ha.1⟩
  have HN : Hid (∀ wr j, At wr g n (pj f a b j) → ¬ f j = a → ¬ f j = b → At wr g n (pj f a b (j + 1))) := Lib.hid fun wr j h h1 h2 => pj_no h h1 h2
  have HY : Hid (∀ wr j, j < n → At wr g n (pj f a b j) → (f j = a ∨ f j = b) → At (wr.setCell ⟨g, j, none⟩ (.int .i64 (min a b))) g n (pj f a b (j + 1))) := Lib.hid fun wr j hj h h1 => pj_yes h hj h1
  clear h
  generalize min a b = mn at CM HY
  generalize pj f a b = pf at H0 HE HC HN HY
  go_enter Try.func160, Try.ntmps160
  go_wp2_with fail
  refine CM.out.mono ?_
  rintro e w1 ⟨rfl, rfl⟩
  go_wp2_with fail
  go_loopw [7] (fun i wr => ∃ j : Nat, j ≤ n ∧ i = .int .i64 (j : Int) ∧ Hid (Bw.But g w wr) ∧ Hid (At wr g n (pf j))) (fun i _ => n - (intOf i).toNat)
  case atStart => exact ⟨0, Nat.zero_le _, rfl, Lib.hid (Bw.But.refl _ _), H0⟩
  case round =>
    obtain ⟨j, hj, rfl, HB, HA⟩ := hrel
    have e0 : (0 : Int) ≤ (j : Int) := Int.natCast_nonneg _
    by_cases hlt : j < n
    · have e1 : (j : Int) < (n : Int) := by omega
      have hj1 : j + 1 ≤ n := by omega
      obtain ⟨c0, cf, cl⟩ := HC.out wr j hlt HA.out
      have HNj := Lib.hid (HN.out wr j HA.out)
      have HYj := Lib.hid (HY.out wr j hlt HA.out)
      clear hj HC HN HY
      generalize f j = fj at c0 HNj HYj
      by_cases q1 : fj = a
      · have HA1 := Lib.hid (HYj.out (.inl q1))
        subst q1
        have HB1 := Lib.hid (HB.out.setCell j (.int .i64 mn))
        clear HNj HYj
        go_wp2_with fail
        go_roundw
        case rel => exact ⟨j + 1, hj1, by go_num, HB1, HA1⟩
        case measure => simp [intOf]; omega
      · by_cases q2 : fj = b
        · have HA1 := Lib.hid (HYj.out (.inr q2))
          subst q2
          have HB1 := Lib.hid (HB.out.setCell j (.int .i64 mn))
          clear HNj HYj
          go_wp2_with fail
          go_roundw
          case rel => exact ⟨j + 1, hj1, by go_num, HB1, HA1⟩
          case measure => simp [intOf]; omega
        · have HA1 := Lib.hid (HNj.out q1 q2)
          have t1 : (fj == a) = false := by simpa using q1
          have t2 : (fj == b) = false := by simpa using q2
          clear HNj HYj
          go_wp2_with fail
          go_roundw
          case rel => exact ⟨j + 1, hj1, by go_num, HB, HA1⟩
          case measure => simp [intOf]; omega
    · have hjn : j = n := by omega
      subst hjn
      have e1 : ¬ (j : Int) < (j : Int) := by omega
      have HZ := Lib.hid (HE.out _ HA.out)
      go_wp2_with fail
      go_end0
      exact ⟨rfl, HZ.out, HB.out⟩
theorem row_at {n : Nat} {f : Nat → Int} {w' : World} {B : Nat} {v : Value} (h : w'.ownsRow B 2 1 v n (upto f n)) (hn : 0 < n) : ∃ g cap, v = .slice (some ⟨g, 0, none⟩) n cap ∧ B ≤ g ∧ At w' g n f := by
  rcases h.2 with ⟨rfl, rfl⟩ | ⟨g, cap, cur, rfl, hbg, hh, _⟩
  · omega
  · exact ⟨g, cap, rfl, hbg, lt_of_heap hh, fun i hi => (h.cellAt i (by omega)).trans (upto_get f hi), fun i => blk_free hh i⟩
theorem jn_lab (X Y : Nat → Nat) (j : Nat) : jn (fun i => (lab X Y j i : Int)) (lab X Y j (X j) : Int) (lab X Y j (Y j) : Int) = fun i => (lab X Y (j + 1) i : Int) := funext fun i => by
  unfold jn
  dsimp only
  rw [lab]
  by_cases h : lab X Y j i = lab X Y j (X j) ∨ lab X Y j i = lab X Y j (Y j)
  · rw [if_pos (by omega), if_pos h]; omega
  · rw [if_neg (by omega), if_neg h]
set_option maxRecDepth 100000 in
set_option maxHeartbeats 2000000 in
theorem s_parts (g : Nat) (A : Option Addr) (n c : Nat) (N : Nat → ByteArray) (ms : Nat → Nat) (ds : Nat → Nat → Int) (Y : Option Addr) (k sc : Nat) (S : Nat → Int) (o : Int) (hz : Small n N ms k) (hP : PatP n N ms ds k S o) (w : World) (h : Boxed w g A n c N ms ds Y k sc S o) :
    Calls Try.prog 133 #[.pointer (some ⟨g, 0, none⟩)] w (OneAt n (ptD S k) w) := by
  obtain ⟨_, hkk, _⟩ := hz.at
  obtain ⟨p1, p2, p3, p4⟩ := pat_in hP
  have p0 : 1 ≤ n := by have := hP.2.1.1; unfold inB at this; simp at this; omega
  have HX := Lib.hid h
  obtain ⟨i0, hi0, hz0, hz1, hz2⟩ := info_parts info_int
  have HI := Lib.hid (And.intro hi0 (And.intro hz0 (And.intro hz1 hz2)))
  have HU : Hid (∀ j, upto (fun i => (i : Int)) (j + 1) = upto (fun i => (i : Int)) j ++ [.int .i64 (j : Int)]) := Lib.hid fun j => upto_snoc _ _
  have HU0 : Hid (upto (fun i => (i : Int)) 0 = []) := Lib.hid rfl
  have HPT : Hid (∀ j, j < k → S (j * 4) = (pX S j : Int) ∧ S (j * 4 + 2) = (pY S j : Int) ∧ pX S j < n ∧ pY S j < n) := Lib.hid fun j hj => by
    obtain ⟨i1, i2, i3, i4⟩ := endA_int (hP.2.2 j hj).1
    have := p4 j hj
    exact ⟨i1.symm, i3.symm, by unfold pX; omega, by unfold pY; omega⟩
  have L0 : Hid (∀ w' gl, At w' gl n (fun i => (i : Int)) → At w' gl n (fun i => (lab (pX S) (pY S) 0 i : Int))) := Lib.hid fun w' gl h => h
  have CJ : Hid (∀ w gl cap j, At w gl n (fun i => (lab (pX S) (pY S) j i : Int)) → Calls Try.prog 160 #[.slice (some ⟨gl, 0, none⟩) n cap, .int .i64 (lab (pX S) (pY S) j (pX S j) : Int), .int .i64 (lab (pX S) (pY S) j (pY S j) : Int)] w fun e w' => e = .returned (.tuple #[]) ∧ At w' gl n (fun i => (lab (pX S) (pY S) (j + 1) i : Int)) ∧ Bw.But gl w w') := Lib.hid fun w gl cap j h => by
    have := s_join gl n cap (fun i => (lab (pX S) (pY S) j i : Int)) (lab (pX S) (pY S) j (pX S j) : Int) (lab (pX S) (pY S) j (pY S j) : Int) (by omega) w h
    rw [jn_lab] at this
    exact this
  have HQ : Hid (∀ gl cap w', At w' gl n (fun i => (lab (pX S) (pY S) k i : Int)) → w.heap.size ≤ gl → Below w.heap.size w w' → OneAt n (ptD S k) w (.returned (.slice (some ⟨gl, 0, none⟩) n cap)) w') := Lib.hid fun gl cap w' ha hg hb => ⟨_, _, rfl, Lib.hid fun hn => ⟨gl, 0, rfl, hg, ha.1, fun i hi => by rw [Nat.zero_add]; exact ha.2.1 i hi, ha.2.2⟩, hb⟩
  clear h hz hP p2 p3 p4 hi0 hz0 hz1 hz2
  generalize OneAt n (ptD S k) w = Q at HQ ⊢
  generalize lab (pX S) (pY S) = L at *
  go_enter Try.func133, Try.ntmps133
  go_wp2_with fail
  have B0 := Lib.hid (below_box w (.cells #[] 2))
  have O0 : Hid ((w.alloc (.cells #[] 2)).ownsRow w.heap.size 2 1 (.slice (some ⟨w.heap.size, 0, none⟩) 0 0) 0 (upto (fun i => (i : Int)) 0)) := Lib.hid (by
    rw [HU0.out]
    exact ⟨rfl, .inr ⟨_, 0, _, rfl, Nat.le_refl _, heap_alloc_new _ _, by omega, by unfold maxLen; omega, rfl, rfl⟩⟩)
  go_loopw [3, 4] (fun v i wr => ∃ (j : Nat) (u : Value), j ≤ n ∧ u = v ∧ i = .int .i64 (j : Int) ∧ Hid (Below w.heap.size w wr) ∧ Hid (wr.ownsRow w.heap.size 2 1 u j (upto (fun i => (i : Int)) j))) (fun _ i _ => n - (intOf i).toNat)
  case atStart => exact ⟨0, _, Nat.zero_le _, rfl, rfl, B0, O0⟩
  case round =>
    obtain ⟨q, v, hq, rfl, rfl, HW, HO⟩ := hrel
    have e0 : (0 : Int) ≤ (q : Int) := Int.natCast_nonneg _
    have hsz := HW.out.size
    have HXr := Lib.hid (HX.out.below HW.out)
    obtain ⟨x0, x1, x2⟩ := blk3 HXr.out.blk
    by_cases hlt : q < n
    · have e2 : (q : Int) < (n : Int) := by omega
      have hq1 : q + 1 ≤ n := by omega
      have HUq := Lib.hid (HU.out q)
      go_wp2_with (at_builtin; refine wpList_append_own _ rfl _ _ 22 rfl w.heap.size 2 i0 _ 1 8 Try.underlying22 HI.out.1 HI.out.2.1 HI.out.2.2.1 HI.out.2.2.2 rfl (by decide) _ _ _ rfl (HO.out.alloc _) ⟨wr.heap.size, 0, none⟩ 1 1 [.int .i64 (q : Int)] rfl rfl ?c1 ?c2 ?c3 ?c4 ?c5 ?_)
      case c1 =>
        intro q' u hu
        rw [Addr.add_lit, Nat.zero_add]
        exact (cell_of_row _ _ q' _ _ _ (heap_alloc_new _ _)).trans (by simpa using hu)
      case c2 => simp [Value.oneCell']
      case c3 => unfold maxLen; omega
      case c4 => omega
      case c5 => first | omega | (simp <;> omega)
      intro v' w6 hown2 hgrow _
      have HQ6 := Lib.hid ((HW.out.alloc (by omega) _).grown hgrow (by simp; omega) fun g hg => (HO.out.lt g hg).1)
      have HO6 := Lib.hid hown2
      rw [← HUq.out] at HO6
      clear hown2 hgrow
      go_wp2_with fail
      go_roundw
      case rel => exact ⟨q + 1, _, hq1, rfl, by go_num, HQ6, HO6⟩
      case measure => simp [intOf]; omega
    · have hqn : q = n := by omega
      subst hqn
      have e2 : ¬ (q : Int) < (q : Int) := by omega
      obtain ⟨gl, cap, rfl, hgl, hat⟩ := row_at HO.out (by omega)
      have HA0 := Lib.hid (L0.out _ gl hat)
      clear hat HO HU HU0 HI hq B0 O0
      go_wp2_with fail
      clear x0 x1 x2
      go_loopw [5] (fun i wr => ∃ j : Nat, j ≤ k ∧ i = .int .i64 (j : Int) ∧ Hid (Below w.heap.size w wr) ∧ Hid (At wr gl q (fun i => (L j i : Int)))) (fun i _ => k - (intOf i).toNat)
      case atStart => exact ⟨0, Nat.zero_le _, rfl, HW, HA0⟩
      case round =>
        clear HXr HW HA0
        obtain ⟨j, hj, rfl, HW, HA⟩ := hrel
        have e0 : (0 : Int) ≤ (j : Int) := Int.natCast_nonneg _
        have HXr := Lib.hid (HX.out.below HW.out)
        obtain ⟨x0, x1, x2⟩ := blk3 HXr.out.blk
        by_cases hlt : j < k
        · have e1 : (j : Int) < (k : Int) := by omega
          have hj1 : j + 1 ≤ k := by omega
          obtain ⟨b1, o1, rfl, hb1, hc1⟩ := HXr.out.pat.seams (by omega)
          obtain ⟨u0, u1, u2, u3⟩ := four_cells hc1 hlt
          obtain ⟨q1, q2, q3, q4⟩ := HPT.out j hlt
          rw [q1] at u0
          rw [q2] at u2
          have l0 : wr.cell? ⟨gl, pX S j, none⟩ = some (.int .i64 (L j (pX S j) : Int)) := HA.out.2.1 _ q3
          have l2 : wr.cell? ⟨gl, pY S j, none⟩ = some (.int .i64 (L j (pY S j) : Int)) := HA.out.2.1 _ q4
          have C := Lib.hid (fun W ha => CJ.out W gl cap j ha)
          generalize pX S j = px at *
          generalize pY S j = py at *
          generalize hla : L j px = la at l0 C
          generalize hlb : L j py = lb' at l2 C
          have f1 : (0 : Int) ≤ (px : Int) := Int.natCast_nonneg _
          have f2 : (0 : Int) ≤ (py : Int) := Int.natCast_nonneg _
          have f3 : (px : Int) < (q : Int) := by omega
          have f4 : (py : Int) < (q : Int) := by omega
          clear hc1 u1 u3 x2 q1 q2
          go_upto_region 9 with fail
          go_still_tail 23, (by kernel_rfl)
          change wpList _ _ _ _ _ wr.drew
          have HAd := Lib.hid (HA.out.below (Below.drew (Below.refl _ _)))
          have HWd := Lib.hid (Below.drew HW.out)
          clear x0 x1 u0 u2 l0 l2 HXr HA HW
          generalize wr.drew = wd at HAd HWd ⊢
          go_wp2_with fail
          refine (C.out wd HAd.out).mono ?_
          rintro e w3 ⟨rfl, ha3, hb3⟩
          have HA3 := Lib.hid ha3
          have HW3 := Lib.hid (HWd.out.trans (hb3.below hgl HWd.out.size))
          clear ha3 hb3 C HAd HWd
          go_wp2_with fail
          go_roundw
          case rel => exact ⟨j + 1, hj1, by go_num, HW3, HA3⟩
          case measure => simp [intOf]; omega
        · have hjk : j = k := by omega
          subst hjk
          have e1 : ¬ (j : Int) < (j : Int) := by omega
          have HZ := Lib.hid (HQ.out gl cap _ HA.out hgl HW.out)
          go_wp2_with fail
          exact HZ.out
end Go.Proofs.Ytpmmfalpcooenab.Uk
