/- The walk of the law of NeedOf. -/
import Derived.Test.YtaoknbhpjnileaaNgLib
import Derived.Test.YtaoknbhpjnileaaBwLib
import Derived.Test.YtaoknbhpjnileaaBlLib
import Derived.Test.YtaoknbhpjnileaaFiLib
import Derived.Deep.RegionHeld3
import Derived.Deep.DeepCutAuto
namespace Go.Proofs.Ytaoknbhpjnileaa.Nel
open Go.RowKit Ft Is Ge Qb Fi La
set_option linter.unusedVariables false
abbrev ftV (a : Nat → Int) : Value := Ne.ftV a
abbrev ftC (a : Nat → Int) (t : TypeId) : Obj := Ne.ftC a t
set_option maxRecDepth 100000 in
set_option maxHeartbeats 8000000 in
theorem core (s0 : ByteArray) (x0 : Nat → Int) (a1 : Nat → Int) (w : World) (hs0 : s0.size ≤ maxLen) (hw1 : ∀ j, j < 4 → (Lit.int .i64 (a1 j)).wf = true) :
    Calls Try.prog 4 #[laV s0 x0, ftV a1] w fun e w' => e = .returned (.bool true) ∧ Below w.heap.size w w' := by
  have Z0 := Lib.hid (fun l h0 h1 w => Bw.sz_last_any s0 x0 l h0 h1 hs0 w)
  have T0 := Lib.hid (fun w => to_last s0 x0 w)
  have T1 := Lib.hid (fun w => to_any (a1 0) (a1 1) (a1 2) (a1 3) w)
  have CS0 := Lib.hid (fun (hz0 : s0.size ≤ 1048576) => (fun w => Ne.spec_nd s0 x0 a1 hs0 w))
  have CI0 := Lib.hid (fun (hz0 : s0.size ≤ 1048576) => (fun w => Ne.impl_nd s0 x0 a1 hs0 w))
  have hb_m : (Ne.ndN s0 x0 a1) ≤ 1048576 := Ne.ndn_le _ _ _
  unfold Un.PairAt at CS0 CI0
  generalize (Ne.ndN s0 x0 a1) = m at CS0 CI0 hb_m
  generalize Ne.nd x0 a1 = d at CS0 CI0
  generalize Ne.ndC s0 x0 a1 = cd at CS0 CI0
  have ne_cd : (cd != cd) = false := by simp
  have EQ_m := Lib.hid (fun A1 A2 c1 c2 w h1 h2 => eq_ints A1 A2 m c1 c2 d hb_m w h1 h2)
  have MK_m := Lib.hid (fun A c B w (hB : B ≤ w.heap.size) h => mark_ints A m c 1 d hb_m (by omega) (by omega) B w h)
  have HE_m := Lib.hid (fun A c w h => Bw.held_same A m c 1 hb_m (by omega) (by omega) w h)
  have hM_m : 0 ≤ mk 1 m := by unfold mk; omega
  generalize mk 1 m = M_m at MK_m HE_m hM_m
  have neM_m : (M_m != M_m) = false := by simp
  obtain ⟨kb0, kb1⟩ := Ge.two w (laC s0 x0 27) (ftC a1 29)
  have B_0 := Lib.hid (Ge.below2 w (laC s0 x0 27) (ftC a1 29))
  have K0_0 := Lib.hid kb0
  have K1_0 := Lib.hid kb1
  clear kb0 kb1
  go_enter Try.func4, Try.ntmps4
  go_upto_region 1 with fail
  generalize hw0 : (w.alloc _).alloc _ = w0 at K0_0 K1_0 B_0 ⊢
  have s_0 := B_0.out.size
  clear hw0
  have lb0 := lt_of_heap K0_0.out
  have lb1 := lt_of_heap K1_0.out
  obtain ⟨v0x0, v0x1, v0x2, v0x3, v0x4, v0x5⟩ := Ge.blk6 K0_0.out
  go_wp2_with fail
  refine (Z0.out _ (by omega) (by omega) _).mono ?_
  rintro e w1 ⟨r1, rfl, hp1, hq1, hs1, b1⟩
  have B_1 := Lib.hid (below_then B_0.out b1)
  have s_1 := b1.size
  have K0_1 := Lib.hid (Ge.blk_keep b1 K0_0.out)
  have K1_1 := Lib.hid (Ge.blk_keep b1 K1_0.out)
  clear v0x0 v0x1 v0x2 v0x3 v0x4 v0x5
  clear b1 B_0 K0_0 K1_0
  by_cases hr1 : r1 < 0
  · go_wp2_with fail
    go_ret
    exact ⟨rfl, B_1.out⟩
  have hz0 : s0.size ≤ 1048576 := hs1 (by omega)
  clear hs1 Z0
  have CS := Lib.hid (CS0.out hz0)
  have CI := Lib.hid (CI0.out hz0)
  clear CS0 CI0
  obtain ⟨v0x0, v0x1, v0x2, v0x3, v0x4, v0x5⟩ := Ge.blk6 K0_1.out
  obtain ⟨v1x0, v1x1, v1x2, v1x3⟩ := Ge.blk4 K1_1.out
  have lt_K0 := lt_of_heap K0_1.out
  have lt_K1 := lt_of_heap K1_1.out
  go_upto_region 5 with fail
  go_cut [6, 7] (fun z0 z1 wx => ∃ Aq0 cq0, z0 = .slice Aq0 m cq0 ∧ z1 = .int .i64 cd ∧ Hid (Own wx w1.heap.size Aq0 m d) ∧ Below w1.heap.size w1 wx)
  case first =>
    clear EQ_m MK_m HE_m hM_m neM_m hb_m CI K0_1 K1_1 B_1
    go_region_held3 (fun w' => w'.cell? ⟨w.heap.size, 0, none⟩ = some (.string s0) ∧ w'.cell? ⟨w.heap.size, 1, none⟩ = some (.int .i64 (x0 0)) ∧ w'.cell? ⟨w.heap.size, 2, none⟩ = some (.int .i64 (x0 1)) ∧ w'.cell? ⟨w.heap.size, 3, none⟩ = some (.int .i64 (x0 2)) ∧ w'.cell? ⟨w.heap.size, 4, none⟩ = some (.int .i64 (x0 3)) ∧ w'.cell? ⟨w.heap.size, 5, none⟩ = some (.int .i64 (x0 4)) ∧ w'.cell? ⟨w.heap.size + 1, 0, none⟩ = some (.int .i64 (a1 0)) ∧ w'.cell? ⟨w.heap.size + 1, 1, none⟩ = some (.int .i64 (a1 1)) ∧ w'.cell? ⟨w.heap.size + 1, 2, none⟩ = some (.int .i64 (a1 2)) ∧ w'.cell? ⟨w.heap.size + 1, 3, none⟩ = some (.int .i64 (a1 3)))
      (first | (refine ⟨?_, ?_, ?_, ?_, ?_, ?_, ?_, ?_, ?_, ?_⟩ <;> (refine Bw.keep_of (w2 := w1) ?_ (by omega) (by assumption); (repeat (first | (with_reducible exact Below.refl _ _) | (with_reducible exact BN) | refine Below.drew ?_)))))
      (first | (go_at_call 21; (with_reducible refine (T0.out _).mono ?_); rintro e wa ⟨rfl, ba⟩; have BN := below_then (w0 := w1) ?_ ba; rotate_left; (focus (repeat (first | (with_reducible exact Below.refl _ _) | (with_reducible exact BN) | refine Below.drew ?_)))) | (go_at_call 22; (with_reducible refine (T1.out _).mono ?_); rintro e wa ⟨rfl, ba⟩; have BN := below_then (w0 := w1) ?_ ba; rotate_left; (focus (repeat (first | (with_reducible exact Below.refl _ _) | (with_reducible exact BN) | refine Below.drew ?_)))) | (go_at_call 20; (with_reducible refine (CS.out _ ).mono ?_); rintro e wa ⟨Aq0, cq0, rfl, Hq0, ba⟩; have Hq0 := Lib.hid (Bw.own_later Hq0.out (show w1.heap.size ≤ _ from ?_)); rotate_left; (focus (first | (have := BN.size; simpa using this) | omega)); have BN := below_then (w0 := w1) ?_ ba; rotate_left; (focus (repeat (first | (with_reducible exact Below.refl _ _) | (with_reducible exact BN) | refine Below.drew ?_)))))
    all_goals
      go_wp2_with fail
      go_meet
      refine ⟨Aq0, cq0, rfl, rfl, ?_, ?_⟩
      · first | (with_reducible exact Hq0) | exact Hq0
      · first | (with_reducible exact BN) | (refine Below.drew ?_; with_reducible exact BN)
  case rest =>
    obtain ⟨AW0, cW0, rfl, rfl, HW0, b2⟩ := hcut
    have B_2 := Lib.hid (below_then B_1.out b2)
    have s_2 := b2.size
    have K0_2 := Lib.hid (Ge.blk_keep b2 K0_1.out)
    have K1_2 := Lib.hid (Ge.blk_keep b2 K1_1.out)
    clear v0x0 v0x1 v0x2 v0x3 v0x4 v0x5 v1x0 v1x1 v1x2 v1x3
    have W0_2 := Lib.hid HW0.out.nums
    clear b2 B_1 K0_1 K1_1 lt_K0 lt_K1 HW0 CS
    rename World => w2
    obtain ⟨v0x0, v0x1, v0x2, v0x3, v0x4, v0x5⟩ := Ge.blk6 K0_2.out
    obtain ⟨v1x0, v1x1, v1x2, v1x3⟩ := Ge.blk4 K1_2.out
    have lt_K0 := lt_of_heap K0_2.out
    have lt_K1 := lt_of_heap K1_2.out
    go_upto_region 6 with fail
    go_cut [8, 9] (fun z0 z1 wx => ∃ Aq0 cq0, z0 = .slice Aq0 m cq0 ∧ z1 = .int .i64 cd ∧ Hid (Own wx w2.heap.size Aq0 m d) ∧ Below w2.heap.size w2 wx)
    case first =>
      clear EQ_m MK_m HE_m hM_m neM_m hb_m K0_2 K1_2 W0_2 B_2
      go_region_held3 (fun w' => w'.cell? ⟨w.heap.size, 0, none⟩ = some (.string s0) ∧ w'.cell? ⟨w.heap.size, 1, none⟩ = some (.int .i64 (x0 0)) ∧ w'.cell? ⟨w.heap.size, 2, none⟩ = some (.int .i64 (x0 1)) ∧ w'.cell? ⟨w.heap.size, 3, none⟩ = some (.int .i64 (x0 2)) ∧ w'.cell? ⟨w.heap.size, 4, none⟩ = some (.int .i64 (x0 3)) ∧ w'.cell? ⟨w.heap.size, 5, none⟩ = some (.int .i64 (x0 4)) ∧ w'.cell? ⟨w.heap.size + 1, 0, none⟩ = some (.int .i64 (a1 0)) ∧ w'.cell? ⟨w.heap.size + 1, 1, none⟩ = some (.int .i64 (a1 1)) ∧ w'.cell? ⟨w.heap.size + 1, 2, none⟩ = some (.int .i64 (a1 2)) ∧ w'.cell? ⟨w.heap.size + 1, 3, none⟩ = some (.int .i64 (a1 3)))
        (first | (refine ⟨?_, ?_, ?_, ?_, ?_, ?_, ?_, ?_, ?_, ?_⟩ <;> (refine Bw.keep_of (w2 := w2) ?_ (by omega) (by assumption); (repeat (first | (with_reducible exact Below.refl _ _) | (with_reducible exact BN) | refine Below.drew ?_)))))
        (first | (go_at_call 21; (with_reducible refine (T0.out _).mono ?_); rintro e wa ⟨rfl, ba⟩; have BN := below_then (w0 := w2) ?_ ba; rotate_left; (focus (repeat (first | (with_reducible exact Below.refl _ _) | (with_reducible exact BN) | refine Below.drew ?_)))) | (go_at_call 22; (with_reducible refine (T1.out _).mono ?_); rintro e wa ⟨rfl, ba⟩; have BN := below_then (w0 := w2) ?_ ba; rotate_left; (focus (repeat (first | (with_reducible exact Below.refl _ _) | (with_reducible exact BN) | refine Below.drew ?_)))) | (go_at_call 23; (with_reducible refine (CI.out _ ).mono ?_); rintro e wa ⟨Aq0, cq0, rfl, Hq0, ba⟩; have Hq0 := Lib.hid (Bw.own_later Hq0.out (show w2.heap.size ≤ _ from ?_)); rotate_left; (focus (first | (have := BN.size; simpa using this) | omega)); have BN := below_then (w0 := w2) ?_ ba; rotate_left; (focus (repeat (first | (with_reducible exact Below.refl _ _) | (with_reducible exact BN) | refine Below.drew ?_)))))
      all_goals
        go_wp2_with fail
        go_meet
        refine ⟨Aq0, cq0, rfl, rfl, ?_, ?_⟩
        · first | (with_reducible exact Hq0) | exact Hq0
        · first | (with_reducible exact BN) | (refine Below.drew ?_; with_reducible exact BN)
    case rest =>
      obtain ⟨AG0, cG0, rfl, rfl, HG0, b3⟩ := hcut
      have B_3 := Lib.hid (below_then B_2.out b3)
      have s_3 := b3.size
      have K0_3 := Lib.hid (Ge.blk_keep b3 K0_2.out)
      have K1_3 := Lib.hid (Ge.blk_keep b3 K1_2.out)
      have W0_3 := Lib.hid (W0_2.out.below b3 (by omega))
      clear v0x0 v0x1 v0x2 v0x3 v0x4 v0x5 v1x0 v1x1 v1x2 v1x3
      have G0_3 := HG0
      clear b3 B_2 K0_2 K1_2 W0_2 lt_K0 lt_K1 HG0
      rename World => w3
      go_wp2_with fail
      refine (EQ_m.out _ _ _ _ _ G0_3.out.nums (W0_3.out.more (by omega))).mono ?_
      rintro e w4 ⟨rfl, b4⟩
      have B_4 := Lib.hid (below_then B_3.out b4)
      have s_4 := b4.size
      have K0_4 := Lib.hid (Ge.blk_keep b4 K0_3.out)
      have K1_4 := Lib.hid (Ge.blk_keep b4 K1_3.out)
      have W0_4 := Lib.hid (W0_3.out.below b4 (by omega))
      have G0_4 := Lib.hid (G0_3.out.below b4)
      clear b4 B_3 K0_3 K1_3 W0_3 G0_3
      go_wp2_with fail
      refine (MK_m.out _ _ w2.heap.size _ (by omega) G0_4.out).mono ?_
      rintro e w5 ⟨rfl, h5, b5⟩
      have B_5 := Lib.hid (B_4.out.trans (b5.mono (by omega)))
      have s_5 := b5.size
      have K0_5 := Lib.hid ((b5.block _ (by omega)).trans K0_4.out)
      have K1_5 := Lib.hid ((b5.block _ (by omega)).trans K1_4.out)
      have W0_5 := Lib.hid (W0_4.out.below b5 (by omega))
      have G0_5 := Lib.hid h5
      clear b5 h5 B_4 K0_4 K1_4 W0_4 G0_4
      go_wp2_with fail
      refine (HE_m.out _ _ _ G0_5.out.nums).mono ?_
      rintro e w6 ⟨rfl, b6⟩
      have B_6 := Lib.hid (below_then B_5.out b6)
      have s_6 := b6.size
      have K0_6 := Lib.hid (Ge.blk_keep b6 K0_5.out)
      have K1_6 := Lib.hid (Ge.blk_keep b6 K1_5.out)
      have W0_6 := Lib.hid (W0_5.out.below b6 (by omega))
      have G0_6 := Lib.hid (G0_5.out.below b6)
      clear b6 B_5 K0_5 K1_5 W0_5 G0_5
      obtain ⟨v0x0, v0x1, v0x2, v0x3, v0x4, v0x5⟩ := Ge.blk6 K0_6.out
      obtain ⟨v1x0, v1x1, v1x2, v1x3⟩ := Ge.blk4 K1_6.out
      have lt_K0 := lt_of_heap K0_6.out
      have lt_K1 := lt_of_heap K1_6.out
      go_upto_region 17 with fail
      go_cut [12, 13] (fun z0 z1 wx => ∃ Aq0 cq0, z0 = .slice Aq0 m cq0 ∧ z1 = .int .i64 cd ∧ Hid (Own wx w6.heap.size Aq0 m d) ∧ Below w6.heap.size w6 wx)
      case first =>
        clear EQ_m MK_m HE_m hM_m neM_m hb_m K0_6 K1_6 W0_6 G0_6 B_6
        go_region_held3 (fun w' => w'.cell? ⟨w.heap.size, 0, none⟩ = some (.string s0) ∧ w'.cell? ⟨w.heap.size, 1, none⟩ = some (.int .i64 (x0 0)) ∧ w'.cell? ⟨w.heap.size, 2, none⟩ = some (.int .i64 (x0 1)) ∧ w'.cell? ⟨w.heap.size, 3, none⟩ = some (.int .i64 (x0 2)) ∧ w'.cell? ⟨w.heap.size, 4, none⟩ = some (.int .i64 (x0 3)) ∧ w'.cell? ⟨w.heap.size, 5, none⟩ = some (.int .i64 (x0 4)) ∧ w'.cell? ⟨w.heap.size + 1, 0, none⟩ = some (.int .i64 (a1 0)) ∧ w'.cell? ⟨w.heap.size + 1, 1, none⟩ = some (.int .i64 (a1 1)) ∧ w'.cell? ⟨w.heap.size + 1, 2, none⟩ = some (.int .i64 (a1 2)) ∧ w'.cell? ⟨w.heap.size + 1, 3, none⟩ = some (.int .i64 (a1 3)))
          (first | (refine ⟨?_, ?_, ?_, ?_, ?_, ?_, ?_, ?_, ?_, ?_⟩ <;> (refine Bw.keep_of (w2 := w6) ?_ (by omega) (by assumption); (repeat (first | (with_reducible exact Below.refl _ _) | (with_reducible exact BN) | refine Below.drew ?_)))))
          (first | (go_at_call 21; (with_reducible refine (T0.out _).mono ?_); rintro e wa ⟨rfl, ba⟩; have BN := below_then (w0 := w6) ?_ ba; rotate_left; (focus (repeat (first | (with_reducible exact Below.refl _ _) | (with_reducible exact BN) | refine Below.drew ?_)))) | (go_at_call 22; (with_reducible refine (T1.out _).mono ?_); rintro e wa ⟨rfl, ba⟩; have BN := below_then (w0 := w6) ?_ ba; rotate_left; (focus (repeat (first | (with_reducible exact Below.refl _ _) | (with_reducible exact BN) | refine Below.drew ?_)))) | (go_at_call 23; (with_reducible refine (CI.out _ ).mono ?_); rintro e wa ⟨Aq0, cq0, rfl, Hq0, ba⟩; have Hq0 := Lib.hid (Bw.own_later Hq0.out (show w6.heap.size ≤ _ from ?_)); rotate_left; (focus (first | (have := BN.size; simpa using this) | omega)); have BN := below_then (w0 := w6) ?_ ba; rotate_left; (focus (repeat (first | (with_reducible exact Below.refl _ _) | (with_reducible exact BN) | refine Below.drew ?_)))))
        all_goals
          go_wp2_with fail
          go_meet
          refine ⟨Aq0, cq0, rfl, rfl, ?_, ?_⟩
          · first | (with_reducible exact Hq0) | exact Hq0
          · first | (with_reducible exact BN) | (refine Below.drew ?_; with_reducible exact BN)
      case rest =>
        obtain ⟨AO0, cO0, rfl, rfl, HO0, b7⟩ := hcut
        have B_7 := Lib.hid (below_then B_6.out b7)
        have s_7 := b7.size
        have K0_7 := Lib.hid (Ge.blk_keep b7 K0_6.out)
        have K1_7 := Lib.hid (Ge.blk_keep b7 K1_6.out)
        have W0_7 := Lib.hid (W0_6.out.below b7 (by omega))
        have G0_7 := Lib.hid (G0_6.out.below b7)
        clear v0x0 v0x1 v0x2 v0x3 v0x4 v0x5 v1x0 v1x1 v1x2 v1x3
        have O0_7 := HO0
        clear b7 B_6 K0_6 K1_6 W0_6 G0_6 lt_K0 lt_K1 HO0
        rename World => w7
        go_wp2_with fail
        refine (EQ_m.out _ _ _ _ _ O0_7.out.nums (W0_7.out.more (by omega))).mono ?_
        rintro e w8 ⟨rfl, b8⟩
        have B_8 := Lib.hid (below_then B_7.out b8)
        have s_8 := b8.size
        have K0_8 := Lib.hid (Ge.blk_keep b8 K0_7.out)
        have K1_8 := Lib.hid (Ge.blk_keep b8 K1_7.out)
        have W0_8 := Lib.hid (W0_7.out.below b8 (by omega))
        have G0_8 := Lib.hid (G0_7.out.below b8)
        have O0_8 := Lib.hid (O0_7.out.below b8)
        clear b8 B_7 K0_7 K1_7 W0_7 G0_7 O0_7
        go_wp2_with fail
        refine (HE_m.out _ _ _ G0_8.out.nums).mono ?_
        rintro e w9 ⟨rfl, b9⟩
        have B_9 := Lib.hid (below_then B_8.out b9)
        have s_9 := b9.size
        have K0_9 := Lib.hid (Ge.blk_keep b9 K0_8.out)
        have K1_9 := Lib.hid (Ge.blk_keep b9 K1_8.out)
        have W0_9 := Lib.hid (W0_8.out.below b9 (by omega))
        have G0_9 := Lib.hid (G0_8.out.below b9)
        have O0_9 := Lib.hid (O0_8.out.below b9)
        clear b9 B_8 K0_8 K1_8 W0_8 G0_8 O0_8
        go_wp2_with fail
        go_ret
        exact ⟨rfl, B_9.out⟩
theorem law (s0 : ByteArray) (q00 q01 q02 q03 q04 : Int) (q10 q11 q12 q13 : Int) (w : World) (hs0 : s0.size ≤ maxLen) (w00 : (Lit.int .i64 q00).wf = true) (w01 : (Lit.int .i64 q01).wf = true) (w02 : (Lit.int .i64 q02).wf = true) (w03 : (Lit.int .i64 q03).wf = true) (w04 : (Lit.int .i64 q04).wf = true) (w10 : (Lit.int .i64 q10).wf = true) (w11 : (Lit.int .i64 q11).wf = true) (w12 : (Lit.int .i64 q12).wf = true) (w13 : (Lit.int .i64 q13).wf = true) :
    Calls Try.prog 4 #[.agg #[.string s0, .int .i64 q00, .int .i64 q01, .int .i64 q02, .int .i64 q03, .int .i64 q04], .agg #[.int .i64 q10, .int .i64 q11, .int .i64 q12, .int .i64 q13]] w fun e w' => e = .returned (.bool true) ∧ Below w.heap.size w w' :=
  core s0 (Bw.of5 q00 q01 q02 q03 q04) (Bw.of4 q10 q11 q12 q13) w hs0 (Bw.wf4 w10 w11 w12 w13)
end Go.Proofs.Ytaoknbhpjnileaa.Nel
