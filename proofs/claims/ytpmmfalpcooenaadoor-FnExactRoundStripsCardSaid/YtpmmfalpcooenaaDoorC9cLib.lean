/- CutLengths: both functions. -/
import Derived.Test.YtpmmfalpcooenaaDoorItLib
namespace Go.Proofs.YtpmmfalpcooenaaDoor.C9c
set_option linter.unusedVariables false
open Go.RowKit Go.Shelf Ft Is Ge Qb Stv Er Ow It
attribute [local go_sem] Oper.semAt_some

noncomputable def ctM (n : Nat) (f : Nat → Int) : Nat := if tv (StP n f) = true then n else 0
noncomputable def ctC (n : Nat) (f : Nat → Int) : Int := if tv (StP n f) = true then 0 else 1
theorem ctm_le (n : Nat) (f : Nat → Int) : ctM n f ≤ 1048576 := by
  unfold ctM
  split
  · rename_i h; have := (tv_iff.1 h).2.2; omega
  · omega
theorem ax_own (B X0 : Nat) (o : Array Value) (t : TypeId) (p : Nat → Prop) : OwnFrom B (fun (_ : Unit) W => ∃ X, X0 < X ∧ W.heap[X]? = some (.cells o t (0, 0)) ∧ p X) := fun _ A A' row hs hg hr => by
  obtain ⟨X, hX, hb, hp⟩ := hs
  exact ⟨X, hX, (hg.block X (lt_of_heap hb) (fun e => by
    obtain ⟨_, o', ho, hc⟩ := hr X e.symm
    rw [hb] at ho
    cases ho
    cases hc)).trans hb, hp⟩
set_option maxRecDepth 100000 in
set_option maxHeartbeats 2000000 in
theorem impl_yes (A : Option Addr) (n c : Nat) (f : Nat → Int) (hP : StP n f) (w : World) (hV : V3 w) (hA : Nums w w.heap.size A (n * 4) f) :
    Calls Tryd.prog 20 #[.slice A n c] w (PairAt n (cl n f) 0 w) := by
  have h3 : 3 ≤ n := hP.2.1
  have h12 : n ≤ 12 := hP.2.2
  have C0 := Lib.hid (Es.check_strips A n c f (by omega) w hA hV.cnt hV.out)
  rw [tv_yes hP] at C0
  have CC := Lib.hid (fun x hx W (hb : Below w.heap.size w W) => code_of 1 true x hx W (hV.ety.below hb))
  simp only [if_true] at CC
  obtain ⟨b, off, rfl, hb, hc⟩ := hA (by omega)
  have HC := Lib.hid hc
  have HMK := Lib.hid (make_row n (by omega))
  clear hV hA hc
  refine (callsIn_wide (n := 3)).1 ?_
  refine callsIn_of_wp_marks Tryd.func20 rfl trivial ?_ rfl
  simp only [Tryd.ntmps20, List.size_toArray, List.length_cons, List.length_nil, Nat.reduceAdd, Nat.reduceSub, Array.replicate_succ, Array.replicate_zero, List.push_toArray, List.append_toArray, List.nil_append, List.cons_append]
  gi_wp2
  refine ⟨trivial, ((callsIn_wide (n := 2)).2 C0.out).mono ?_⟩
  rintro e w1 ⟨⟨x0, rfl, hx⟩, b1⟩
  have HB1 := Lib.hid b1
  have C1 := Lib.hid (CC.out x0 hx w1 HB1.out)
  clear b1 hx C0 CC
  gi_wp2
  refine ⟨trivial, ((callsIn_wide (n := 2)).2 C1.out).mono ?_⟩
  rintro e w2 ⟨rfl, b2⟩
  have HB2 := Lib.hid (below_then HB1.out b2)
  clear b2 C1 HB1
  have hmk := HMK.out w2
  have CS := fun W => (callsIn_wide (n := 2)).2 (cut_strips (some ⟨b, off, none⟩) n c W)
  gi_wp2
  refine ⟨trivial, (CS _).mono ?_⟩
  rintro e w3 ⟨rfl, rfl⟩
  gi_wp2
  obtain ⟨W0, hW0⟩ : ∃ W0, (((w2.alloc (.cells (Go.madeCells #[Value.int .i64 0] n) 2)).alloc (.cells #[.slice (some ⟨w2.heap.size, 0, none⟩) 0 n] 29)).alloc (.cells #[.slice (some ⟨b, off, none⟩) n c] 25)) = W0 := ⟨_, rfl⟩
  have bL0 := (Boxed.new (w2.alloc (.cells (Go.madeCells #[Value.int .i64 0] n) 2)) 29 (.slice (some ⟨w2.heap.size, 0, none⟩) 0 n)).alloc (.cells #[.slice (some ⟨b, off, none⟩) n c] 25)
  rw [World.size_alloc] at bL0
  have bN := Boxed.new ((w2.alloc (.cells (Go.madeCells #[Value.int .i64 0] n) 2)).alloc (.cells #[.slice (some ⟨w2.heap.size, 0, none⟩) 0 n] 29)) 25 (.slice (some ⟨b, off, none⟩) n c)
  rw [World.size_alloc, World.size_alloc] at bN
  have row0 := ((row_start w2 n (by omega) (cl n f)).alloc (.cells #[.slice (some ⟨w2.heap.size, 0, none⟩) 0 n] 29)).alloc (.cells #[.slice (some ⟨b, off, none⟩) n c] 25)
  have B0 : Below w2.heap.size w2 (((w2.alloc (.cells (Go.madeCells #[Value.int .i64 0] n) 2)).alloc (.cells #[.slice (some ⟨w2.heap.size, 0, none⟩) 0 n] 29)).alloc (.cells #[.slice (some ⟨b, off, none⟩) n c] 25)) := (((Below.refl _ w2).alloc (Nat.le_refl _) _).alloc (by simp) _).alloc (by simp; omega) _
  have hsz : (((w2.alloc (.cells (Go.madeCells #[Value.int .i64 0] n) 2)).alloc (.cells #[.slice (some ⟨w2.heap.size, 0, none⟩) 0 n] 29)).alloc (.cells #[.slice (some ⟨b, off, none⟩) n c] 25)).heap.size = w2.heap.size + 3 := by simp
  rw [hW0] at bL0 bN row0 B0 hsz ⊢
  have hb2 : b < w2.heap.size := Nat.lt_of_lt_of_le hb HB2.out.size
  have hcs : ∀ i, i < n * 4 → W0.cell? ⟨b, off + i, none⟩ = some (.int .i64 (f i)) := fun i hi => (B0.cell (p := ⟨b, off + i, none⟩) hb2).trans ((HB2.out.cell (p := ⟨b, off + i, none⟩) hb).trans (HC.out i hi))
  obtain ⟨i0, hi, hz0, hz1, hz2⟩ := info_parts info_int
  refine wpIn_rangeFunc_ownH rfl (by omega) (gf := 83) (lb := #[.pointer (some ⟨w2.heap.size + 1 + 1, 0, none⟩)]) rfl trivial (enters_of Tryd.func83 (by kernel_rfl) rfl)
    (stops 2 (by omega) (w2.heap.size + 1 + 1) w2.heap.size b off n c f hP W0 (by omega) (by omega) hb2 bN.cell hcs) belowK_t (belowK_b (by omega)) (Below.refl _ _) (fun _ => rfl)
    (fun pre W => (∃ v, Boxed W (w2.heap.size + 1) 29 v ∧ W.ownsRow w2.heap.size 2 1 v pre.length (pre.map fun k => Value.int .i64 (cl n f k))) ∧ Below w2.heap.size w2 W)
    (fun _ _ _ => False)
    (OwnFrom.and (Own.from (fun s A B row hs hg hr => by
      obtain ⟨v, h1, h2⟩ := hs
      exact holdsRow_own w2.heap.size (w2.heap.size + 1) 29 2 1 (fun pre : List Nat => pre.length) (fun pre => pre.map fun k => Value.int .i64 (cl n f k)) (fun _ _ => True) s A B row ⟨v, h1, h2, trivial⟩ hg hr |>.elim fun v h => ⟨v, h.1, h.2.1⟩) _) (ownFrom_below (Nat.le_refl _) (by omega)))
    (fun _ _ _ _ _ hs _ _ => hs)
    ⟨⟨_, bL0, row0⟩, B0⟩
    (fun x a' W => ∃ X, w2.heap.size + 1 < X ∧ W.heap[X]? = some (.cells #[.int .i64 (s n f x 0), .int .i64 (s n f x 1), .int .i64 (s n f x 2), .int .i64 (s n f x 3), .int .i64 (cl n f x)] 71 (0, 0)) ∧
      a' = { tmps := #[.slice (some ⟨b, off, none⟩) n c, undef, .slice none 0 0, .int .i64 0, .int .i64 0, .pointer (some ⟨w2.heap.size + 1, 0, none⟩), .pointer (some ⟨X, 0, none⟩), .slice (some ⟨b, off, none⟩) n c, x0, .int .i64 0, .int .i64 0, .bool false, undef, .slice (some ⟨b, off, none⟩) n c, .int .i64 n, .slice (some ⟨w2.heap.size, 0, none⟩) 0 n, .slice (some ⟨b, off, none⟩) n c, .func (.func 83) #[] #[.pointer (some ⟨w2.heap.size + 1 + 1, 0, none⟩)], en n f x, undef, undef, undef, undef, undef, undef], defers := [] })
    (fun x a' => ax_own _ _ _ _ _) ?assign ?body ?done ?stop
  case assign =>
    rintro l pre x W K ⟨⟨v, hv, hrow⟩, hB⟩ hK
    unfold en
    gi_wp2
    exact hK _ _ ((KeepsOthers.alloc _ _).from _) ((Below.refl _ W).alloc hB.size _) ⟨⟨v, hv.alloc _, hrow.alloc _⟩, hB.alloc hB.size _⟩ ⟨W.heap.size, hv.lt, blk_new _ _, rfl⟩
  case body =>
    rintro l pre x a' W hl ⟨r, hr⟩ ⟨⟨v, hv, hrow⟩, hB⟩ ⟨X, hX, kX, rfl⟩ hlt
    have hc := hv.cell
    have q4 : W.cell? ⟨X, 4, none⟩ = some (.int .i64 (cl n f x)) := cell_of_row _ _ _ _ _ _ kX
    gi_wp2_with (gi_at_builtin; refine wpListIn_append_own _ rfl _ _ 29 rfl w2.heap.size 2 i0 (.int .i64 0) 1 8 Tryd.underlying29 hi hz0 hz1 hz2 rfl (by decide) _ _ _ rfl (hrow.alloc _) ⟨W.heap.size, 0, none⟩ 1 1 [.int .i64 (cl n f x)] rfl rfl (cell_one_new _ _ _) (by simp [Value.oneCell']) (by unfold maxLen; omega) (by omega) (by have := hB.size; simp; omega) ?_; intro v' w1 hown' hgrow _; obtain ⟨g', cap', rfl⟩ := ownsRow_succ hown'; obtain ⟨hv1, hv2, hr2, hk2, hb2⟩ := hv.appended (by decide) hrow hB.size (by omega) hown' hgrow; have hc1 := hv1.cell; have hf1 := hv1.frozen)
    exact ⟨hk2.from _, hb2, ⟨⟨_, hv2, by simpa using hr2⟩, hB.trans hb2⟩⟩
  case done =>
    rintro D ys W hD rfl ⟨⟨v, hv, hrow⟩, hB⟩ hK
    have hc := hv.cell
    gi_wp2
    refine ⟨by simp, .inl ⟨_, _, rfl, run_takeDeferred hK, ?_⟩⟩
    have hrow2 : W.ownsRow w2.heap.size 2 1 v n (upto (cl n f) n) := by simpa [upto] using hrow
    exact ⟨.tuple #[v, .int .i64 0], by simp [results, Tryd.results20, go_sem], pair_of_row (ownsRow_putObj hrow2 _ hK rfl) HB2.out (hB.trans (belowK_b (w := w2) (Nat.le_refl _) W D _ _ (by omega) hK rfl rfl))⟩
  case stop =>
    rintro D c pre W _ _ h _
    exact h.elim
theorem impl_no (A : Option Addr) (n c : Nat) (f : Nat → Int) (hn : n ≤ 1048576) (hP : ¬ StP n f) (w : World) (hV : V3 w) (hA : Nums w w.heap.size A (n * 4) f) :
    Calls Tryd.prog 20 #[.slice A n c] w fun e w' => e = .returned (.tuple #[.slice none 0 0, .int .i64 1]) ∧ Below w.heap.size w w' := by
  have C0 := Lib.hid (Es.check_strips A n c f hn w hA hV.cnt hV.out)
  rw [tv_no hP] at C0
  have CC := Lib.hid (fun x hx W (hb : Below w.heap.size w W) => code_of 1 false x hx W (hV.ety.below hb))
  simp only [Bool.false_eq_true, if_false] at CC
  clear hV hA
  refine (callsIn_wide (n := 3)).1 ?_
  refine callsIn_of_wp_marks Tryd.func20 rfl trivial ?_ rfl
  simp only [Tryd.ntmps20, List.size_toArray, List.length_cons, List.length_nil, Nat.reduceAdd, Nat.reduceSub, Array.replicate_succ, Array.replicate_zero, List.push_toArray, List.append_toArray, List.nil_append, List.cons_append]
  gi_wp2
  refine ⟨trivial, ((callsIn_wide (n := 2)).2 C0.out).mono ?_⟩
  rintro e w1 ⟨⟨x0, rfl, hx⟩, b1⟩
  have HB1 := Lib.hid b1
  have C1 := Lib.hid (CC.out x0 hx w1 HB1.out)
  clear b1 hx C0 CC
  gi_wp2
  refine ⟨trivial, ((callsIn_wide (n := 2)).2 C1.out).mono ?_⟩
  rintro e w2 ⟨rfl, b2⟩
  have HB2 := Lib.hid (below_then HB1.out b2)
  clear b2 C1 HB1
  gi_wp2
  exact ⟨.tuple #[.slice none 0 0, .int .i64 1], by simp [results, Tryd.results20, go_sem], rfl, HB2.out⟩
set_option maxRecDepth 100000 in
set_option maxHeartbeats 2000000 in
theorem spec_ct (A : Option Addr) (n c : Nat) (f : Nat → Int) (hn : n ≤ 1048576) (w : World) (hA : Nums w w.heap.size A (n * 4) f) :
    Calls Tryd.prog 19 #[.slice A n c] w (PairAt (ctM n f) (cl n f) (ctC n f) w) := by
  have HA := Lib.hid hA
  have C0 := Lib.hid (Stv.ok A n c f hn w hA)
  have HN : Hid (tv (StP n f) = false → ∀ W, Below w.heap.size w W → PairAt (ctM n f) (cl n f) (ctC n f) w (.returned (.tuple #[.slice none 0 0, .int .i64 1])) W) := Lib.hid fun h W hb => by
    unfold ctM ctC; rw [h]; exact pair_no hb _
  have HY : Hid (tv (StP n f) = true → ∀ v w1 w', w'.ownsRow w1.heap.size 2 1 v n (upto (cl n f) n) → Below w.heap.size w w1 → Below w1.heap.size w1 w' → PairAt (ctM n f) (cl n f) (ctC n f) w (.returned (.tuple #[v, .int .i64 0])) w') := Lib.hid fun h v w1 w' h1 h2 h3 => by
    unfold ctM ctC; rw [h]; exact pair_of_row h1 h2 h3
  have HI : Hid (tv (StP n f) = true → n ≤ 12) := Lib.hid fun h => (tv_iff.1 h).2.2
  have CF : Hid (tv (StP n f) = true → ∀ k, k < n → ∀ g o W, W.cell? ⟨g, o, none⟩ = some (.int .i64 (f (k * 4))) → W.cell? ⟨g, o + 1, none⟩ = some (.int .i64 (f (k * 4 + 1))) → W.cell? ⟨g, o + 2, none⟩ = some (.int .i64 (f (k * 4 + 2))) → W.cell? ⟨g, o + 3, none⟩ = some (.int .i64 (f (k * 4 + 3))) →
      Calls Tryd.prog 49 #[.pointer (some ⟨g, o, none⟩)] W fun e w' => e = .returned (.int .i64 (cl n f k)) ∧ Below W.heap.size W w') := Lib.hid fun h k hk g o W h0 h1 h2 h3 => by
    obtain ⟨q0, q1, q2, q3⟩ := st_in (tv_iff.1 h) hk
    have := Stv.cut _ _ _ _ q0 q2 q3 g o W h0 h1 h2 h3
    unfold cl s
    simp only [if_pos hk, Nat.add_zero]
    exact this
  have HU : Hid (∀ j, upto (cl n f) (j + 1) = upto (cl n f) j ++ [.int .i64 (cl n f j)]) := Lib.hid fun j => upto_snoc _ _
  obtain ⟨i0, hi0, hz0, hz1, hz2⟩ := info_parts info_int
  have HIn := Lib.hid (And.intro hi0 (And.intro hz0 (And.intro hz1 hz2)))
  have O0 := Lib.hid (fun W => row_zero W (cl n f))
  clear hA hi0 hz0 hz1 hz2
  generalize PairAt (ctM n f) (cl n f) (ctC n f) w = Q at HN HY ⊢
  generalize upto (cl n f) = UP at HU HY O0
  generalize cl n f = D at HU CF
  generalize tv (StP n f) = r at C0 HN HY HI CF
  go_enter Tryd.func19, Tryd.ntmps19
  go_wp2_with fail
  refine C0.out.mono ?_
  rintro e w' ⟨rfl, rfl⟩
  cases r
  · have HZ := Lib.hid (HN.out rfl w (Below.refl _ _))
    go_wp2_with fail
    exact HZ.out
  have n12 := HI.out rfl
  have CFr := Lib.hid (CF.out rfl)
  have HYr := Lib.hid (HY.out rfl)
  clear HN HY HI CF C0
  go_wp2_with fail
  have B0 := Lib.hid (below_box w (.cells #[] 2))
  have R0 := Lib.hid (O0.out w)
  go_loopw [4, 5] (fun v i wr => ∃ (j : Nat) (u : Value), j ≤ n ∧ u = v ∧ i = .int .i64 (j : Int) ∧ Hid (Below w.heap.size w wr) ∧ Hid (wr.ownsRow w.heap.size 2 1 u j (UP j))) (fun _ i _ => n - (intOf i).toNat)
  case atStart => exact ⟨0, _, Nat.zero_le _, rfl, rfl, B0, R0⟩
  case round =>
    obtain ⟨j, v, hj, rfl, rfl, HW, HO⟩ := hrel
    have e0 : (0 : Int) ≤ (j : Int) := Int.natCast_nonneg _
    by_cases hlt : j < n
    · obtain ⟨b, off, rfl, hb, hc⟩ := (HA.out.below HW.out (Nat.le_refl _)) (by omega)
      obtain ⟨x0, x1, x2, x3⟩ := Str.cells_at hc hlt
      have e1 : (j : Int) < (n : Int) := by omega
      have hj1 : j + 1 ≤ n := by omega
      have CJ := Lib.hid (CFr.out j hlt b (off + j * 4) wr x0 x1 x2 x3)
      have HUj := Lib.hid (HU.out j)
      generalize D j = dj at CJ HUj
      clear hc hj x0 x1 x2 x3
      go_wp2_with fail
      refine CJ.out.mono ?_
      rintro e w2 ⟨rfl, b2⟩
      have HW2 := Lib.hid (below_then HW.out b2)
      have HO2 := Lib.hid (row_below HO.out b2)
      have hsz := HW2.out.size
      clear CJ b2
      go_wp2_with (at_builtin; refine wpList_append_own _ rfl _ _ 29 rfl w.heap.size 2 i0 _ 1 8 Tryd.underlying29 HIn.out.1 HIn.out.2.1 HIn.out.2.2.1 HIn.out.2.2.2 rfl (by decide) _ _ _ rfl (HO2.out.alloc _) ⟨w2.heap.size, 0, none⟩ 1 1 [.int .i64 dj] rfl rfl ?c1 ?c2 ?c3 ?c4 ?c5 ?_)
      case c1 => exact cell_new _ _ _
      case c2 => simp [Value.oneCell']
      case c3 => unfold maxLen; omega
      case c4 => omega
      case c5 => first | omega | (simp <;> omega)
      intro v' w6 hown2 hgrow _
      have HQ := Lib.hid ((HW2.out.alloc hsz _).grown hgrow (by simp; omega) fun g hg => (HO2.out.lt g hg).1)
      have HO6 : Hid (w6.ownsRow w.heap.size 2 1 v' (j + 1) (UP (j + 1))) := Lib.hid (by rw [HUj.out]; exact hown2)
      clear hown2 hgrow
      go_wp2_with fail
      go_roundw
      case rel => exact ⟨j + 1, _, hj1, rfl, by go_num, HQ, HO6⟩
      case measure => simp [intOf]; omega
    · obtain rfl : j = n := by omega
      have e1 : ¬ (j : Int) < (j : Int) := by omega
      have HZ := Lib.hid (HYr.out v w wr HO.out (Below.refl _ _) HW.out)
      clear hj HU HYr CFr
      go_wp2_with fail
      exact HZ.out
theorem impl_ct (A : Option Addr) (n c : Nat) (f : Nat → Int) (hn : n ≤ 1048576) (w : World) (hV : V3 w) (hA : Nums w w.heap.size A (n * 4) f) :
    Calls Tryd.prog 20 #[.slice A n c] w (PairAt (ctM n f) (cl n f) (ctC n f) w) := by
  unfold ctM ctC
  by_cases hP : StP n f
  · rw [tv_yes hP]
    exact impl_yes A n c f hP w hV hA
  · rw [tv_no hP]
    refine (impl_no A n c f hn hP w hV hA).mono ?_
    rintro e w' ⟨rfl, hb⟩
    exact pair_no hb _
end Go.Proofs.YtpmmfalpcooenaaDoor.C9c
