/- The walk of the law of AllowedLasts. -/
import Derived.Test.YtaoknbhpjnileabAlLib
import Derived.Test.YtaoknbhpjnileabBlLib
import Derived.Test.YtaoknbhpjnileabCqLib
import Derived.Deep.RegionHeld3
import Derived.Deep.DeepCutAuto
namespace Go.Proofs.Ytaoknbhpjnileab.Am
open Go.RowKit Ft Is Ge Qb La Ll Lv Co Fi Ch
theorem gaps_said : GapsSaid := fun s x a mn mx gi A c hx ha w => gaps_any s x a mn mx gi A c hx ha w
theorem al_len (n : Nat) (N : Nat → ByteArray) (F : Nat → Nat → Int) (a : Nat → Int) (mn mx gi : Int) (m : Nat) (p : Nat → Int) : (alL n N F a mn mx gi m p).length ≤ 1048576 := by
  unfold alL
  split
  · rename_i h
    have := fl_le (alP F mn mx gi p a) n
    have := (fine_of h).2.1
    omega
  · simp
set_option maxRecDepth 100000 in
set_option maxHeartbeats 8000000 in
theorem core (A0 : Option Addr) (n0 c0 : Nat) (N0 : Nat → ByteArray) (F0 : Nat → Nat → Int) (a1 : Nat → Int) (mn2 mx2 gi2 : Int) (A2 : Option Addr) (n2 c2 : Nat) (p2 : Nat → Int) (w : World) (hR0 : Lasts w w.heap.size A0 n0 N0 F0) (hw1 : ∀ j, j < 4 → (Lit.int .i64 (a1 j)).wf = true) (hm2 : n2 ≤ maxLen) (hR2 : Nums w w.heap.size A2 n2 p2) :
    Calls Try.prog 5 #[.slice A0 n0 c0, ftV a1, fitV mn2 mx2 gi2 A2 n2 c2] w fun e w' => e = .returned (.bool true) ∧ Below w.heap.size w w' := by
  have R0 := Lib.hid hR0
  have Z0 := Lib.hid (fun l h0 h1 w h => sz_lasts A0 n0 c0 N0 F0 l h0 h1 w h)
  have T0n := Lib.hid (fun hn w h => to_lasts A0 n0 c0 N0 F0 hn w h)
  have Q0n := Lib.hid (fun hn A1 A2 c1 c2 w h1 h2 => Ll.eq_lasts A1 A2 n0 c1 c2 N0 F0 hn w h1 h2)
  have M0n := Lib.hid (fun hn k0 h0 h1 g c w h => Bw.mark_lasts_but g n0 c k0 (Ks.lv N0 F0) hn h0 h1 w h)
  have T1 := Lib.hid (fun w => to_any (a1 0) (a1 1) (a1 2) (a1 3) w)
  have R2 := Lib.hid hR2
  have Z2 := Lib.hid (fun l h0 h1 w => Bw.sz_fit_any mn2 mx2 gi2 A2 n2 c2 l h0 h1 hm2 w)
  have T2n := Lib.hid (fun hn w h => to_fit mn2 mx2 gi2 A2 n2 c2 p2 hn w h)
  have Q2n := Lib.hid (fun hn A1 A2 c1 c2 w h1 h2 => eq_fit mn2 mx2 gi2 A1 A2 n2 c1 c2 p2 hn w h1 h2)
  have M2n := Lib.hid (fun hn k0 h0 h1 g c w h => Bw.mark_fit mn2 mx2 gi2 g n2 c k0 p2 hn h0 h1 w h)
  have CS0 := Lib.hid (fun (hn0 : n0 ≤ 1048576) (hn2 : n2 ≤ 1048576) => (fun A0 c0 A2 c2 w h0 h2 => spec_al A0 n0 c0 N0 F0 a1 mn2 mx2 gi2 A2 n2 c2 p2 hn0 hn2 w h0 h2))
  have CI0 := Lib.hid (fun (hn0 : n0 ≤ 1048576) (hn2 : n2 ≤ 1048576) => (fun A0 c0 A2 c2 w h0 h2 => impl_al gaps_said A0 n0 c0 N0 F0 a1 mn2 mx2 gi2 A2 n2 c2 p2 hn0 hn2 hw1 w h0 h2))
  have hb_m : (alL n0 N0 F0 a1 mn2 mx2 gi2 n2 p2).length ≤ 1048576 := al_len _ _ _ _ _ _ _ _ _
  unfold PairAt at CS0 CI0
  generalize (alL n0 N0 F0 a1 mn2 mx2 gi2 n2 p2).length = m at CS0 CI0 hb_m
  generalize lsD (alL n0 N0 F0 a1 mn2 mx2 gi2 n2 p2) = d at CS0 CI0
  generalize okC n0 N0 F0 a1 mn2 mx2 gi2 n2 p2 = cd at CS0 CI0
  have ne_cd : (cd != cd) = false := by simp
  have EQ_m := Lib.hid (fun A1 A2 c1 c2 w h1 h2 => eq_ints A1 A2 m c1 c2 d hb_m w h1 h2)
  have MK_m := Lib.hid (fun A c B w (hB : B ≤ w.heap.size) h => mark_ints A m c 1 d hb_m (by omega) (by omega) B w h)
  have HE_m := Lib.hid (fun A c w h => Bw.held_same A m c 1 hb_m (by omega) (by omega) w h)
  have hM_m : 0 ≤ mk 1 m := by unfold mk; omega
  generalize mk 1 m = M_m at MK_m HE_m hM_m
  have neM_m : (M_m != M_m) = false := by simp
  clear hR0 hR2
  obtain ⟨kb0, kb1⟩ := Ge.two w (ftC a1 25) (fiC mn2 mx2 gi2 A2 n2 c2 28)
  have B_0 := Lib.hid (Ge.below2 w (ftC a1 25) (fiC mn2 mx2 gi2 A2 n2 c2 28))
  have K1_0 := Lib.hid kb0
  have K2_0 := Lib.hid kb1
  clear kb0 kb1
  go_enter Try.func5, Try.ntmps5
  go_upto_region 1 with fail
  generalize hw0 : (w.alloc _).alloc _ = w0 at K1_0 K2_0 B_0 ⊢
  have s_0 := B_0.out.size
  clear hw0
  have lb1 := lt_of_heap K1_0.out
  have lb2 := lt_of_heap K2_0.out
  go_wp2_with fail
  refine (Z0.out _ (by omega) (by omega) _ ((R0.out.below B_0.out (Nat.le_refl _)).more B_0.out.size)).mono ?_
  rintro e w1 ⟨r1, rfl, hp1, hq1, hs1, b1⟩
  have B_1 := Lib.hid (below_then B_0.out b1)
  have s_1 := b1.size
  have K1_1 := Lib.hid (Ge.blk_keep b1 K1_0.out)
  have K2_1 := Lib.hid (Ge.blk_keep b1 K2_0.out)
  clear b1 B_0 K1_0 K2_0
  by_cases hr1 : r1 < 0
  · go_wp2_with fail
    go_ret
    exact ⟨rfl, B_1.out⟩
  have hn0 : n0 ≤ 1048576 := hs1 (by omega)
  clear hs1 Z0
  obtain ⟨v2x0, v2x1, v2x2, v2x3⟩ := Ge.blk4 K2_1.out
  go_wp2_with fail
  refine (Z2.out _ (by omega) (by omega) _).mono ?_
  rintro e w2 ⟨r2, rfl, hp2, hq2, hs2, b2⟩
  have B_2 := Lib.hid (below_then B_1.out b2)
  have s_2 := b2.size
  have K1_2 := Lib.hid (Ge.blk_keep b2 K1_1.out)
  have K2_2 := Lib.hid (Ge.blk_keep b2 K2_1.out)
  clear v2x0 v2x1 v2x2 v2x3
  clear b2 B_1 K1_1 K2_1
  by_cases hr2 : r2 < 0
  · go_wp2_with fail
    go_ret
    exact ⟨rfl, B_2.out⟩
  have hn2 : n2 ≤ 1048576 := hs2 (by omega)
  clear hs2 Z2
  have CS := Lib.hid (CS0.out hn0 hn2)
  have CI := Lib.hid (CI0.out hn0 hn2)
  clear CS0 CI0
  have T0 := Lib.hid (T0n.out hn0)
  have Q0 := Lib.hid (Q0n.out hn0)
  have M0 := Lib.hid (M0n.out hn0)
  clear T0n Q0n M0n
  have T2 := Lib.hid (T2n.out hn2)
  have Q2 := Lib.hid (Q2n.out hn2)
  have M2 := Lib.hid (M2n.out hn2)
  clear T2n Q2n M2n
  obtain ⟨v1x0, v1x1, v1x2, v1x3⟩ := Ge.blk4 K1_2.out
  obtain ⟨v2x0, v2x1, v2x2, v2x3⟩ := Ge.blk4 K2_2.out
  have lt_K1 := lt_of_heap K1_2.out
  have lt_K2 := lt_of_heap K2_2.out
  have At0 : Hid (∀ W, Below w2.heap.size w2 W → Lasts W W.heap.size A0 n0 N0 F0) := Lib.hid fun W h => (R0.out.below (below_then B_2.out h) (Nat.le_refl _)).more (below_then B_2.out h).size
  have At2 : Hid (∀ W, Below w2.heap.size w2 W → Nums W W.heap.size A2 n2 p2) := Lib.hid fun W h => (R2.out.below (below_then B_2.out h) (Nat.le_refl _)).more (below_then B_2.out h).size
  go_upto_region 8 with fail
  go_cut [8, 9] (fun z0 z1 wx => ∃ Aq0 cq0, z0 = .slice Aq0 m cq0 ∧ z1 = .int .i64 cd ∧ Hid (Own wx w2.heap.size Aq0 m d) ∧ Below w2.heap.size w2 wx)
  case first =>
    clear Q0 M0 Q2 M2 EQ_m MK_m HE_m hM_m neM_m hb_m CI K1_2 K2_2 B_2
    go_region_held3 (fun w' => w'.cell? ⟨w.heap.size, 0, none⟩ = some (.int .i64 (a1 0)) ∧ w'.cell? ⟨w.heap.size, 1, none⟩ = some (.int .i64 (a1 1)) ∧ w'.cell? ⟨w.heap.size, 2, none⟩ = some (.int .i64 (a1 2)) ∧ w'.cell? ⟨w.heap.size, 3, none⟩ = some (.int .i64 (a1 3)) ∧ w'.cell? ⟨w.heap.size + 1, 0, none⟩ = some (.int .i64 mn2) ∧ w'.cell? ⟨w.heap.size + 1, 1, none⟩ = some (.int .i64 mx2) ∧ w'.cell? ⟨w.heap.size + 1, 2, none⟩ = some (.int .i64 gi2) ∧ w'.cell? ⟨w.heap.size + 1, 3, none⟩ = some (.slice A2 n2 c2))
      (first | (refine ⟨?_, ?_, ?_, ?_, ?_, ?_, ?_, ?_⟩ <;> (refine Bw.keep_of (w2 := w2) ?_ (by omega) (by assumption); (repeat (first | (with_reducible exact Below.refl _ _) | (with_reducible exact BN) | refine Below.drew ?_)))))
      (first | (go_at_call 25; (with_reducible refine (T0.out _ (At0.out _ ?_)).mono ?_); (focus (repeat (first | (with_reducible exact Below.refl _ _) | (with_reducible exact BN) | refine Below.drew ?_))); rintro e wa ⟨gZ, arrZ, rfl, hgZ, ba, kZ, aZ⟩; have I0 := Lib.hid (lasts_of_copy R0.out kZ.out aZ.out); (try (have I2 := Lib.hid (((by exact I2 : Hid (Nums _ _ _ _ _)).out.below ba (Nat.le_refl _)).more ba.size))); clear hgZ kZ aZ; have BN := below_then (w0 := w2) ?_ ba; rotate_left; (focus (repeat (first | (with_reducible exact Below.refl _ _) | (with_reducible exact BN) | refine Below.drew ?_)))) | (go_at_call 17; (with_reducible refine (T1.out _).mono ?_); rintro e wa ⟨rfl, ba⟩; (try (have I0 := Lib.hid (((by exact I0 : Hid (Lasts _ _ _ _ _ _)).out.below ba (Nat.le_refl _)).more ba.size))); (try (have I2 := Lib.hid (((by exact I2 : Hid (Nums _ _ _ _ _)).out.below ba (Nat.le_refl _)).more ba.size))); have BN := below_then (w0 := w2) ?_ ba; rotate_left; (focus (repeat (first | (with_reducible exact Below.refl _ _) | (with_reducible exact BN) | refine Below.drew ?_)))) | (go_at_call 18; (with_reducible refine (T2.out _ (At2.out _ ?_)).mono ?_); (focus (repeat (first | (with_reducible exact Below.refl _ _) | (with_reducible exact BN) | refine Below.drew ?_))); rintro e wa ⟨gZ, rfl, hgZ, aZ, ba⟩; have I2 := Lib.hid (at_nums aZ.out); (try (have I0 := Lib.hid (((by exact I0 : Hid (Lasts _ _ _ _ _ _)).out.below ba (Nat.le_refl _)).more ba.size))); clear hgZ aZ; have BN := below_then (w0 := w2) ?_ ba; rotate_left; (focus (repeat (first | (with_reducible exact Below.refl _ _) | (with_reducible exact BN) | refine Below.drew ?_)))) | (go_at_call 24; (with_reducible refine (CS.out _ _ _ _ _ ?_ ?_).mono ?_); (focus (exact I0.out)); (focus (exact I2.out)); rintro e wa ⟨Aq0, cq0, rfl, Hq0, ba⟩; have Hq0 := Lib.hid (Bw.own_later Hq0.out (show w2.heap.size ≤ _ from ?_)); rotate_left; (focus (first | (have := BN.size; simpa using this) | omega)); have BN := below_then (w0 := w2) ?_ ba; rotate_left; (focus (repeat (first | (with_reducible exact Below.refl _ _) | (with_reducible exact BN) | refine Below.drew ?_)))))
    all_goals
      go_wp2_with fail
      go_meet
      refine ⟨Aq0, cq0, rfl, rfl, ?_, ?_⟩
      · first | (with_reducible exact Hq0) | exact Hq0
      · first | (with_reducible exact BN) | (refine Below.drew ?_; with_reducible exact BN)
  case rest =>
    obtain ⟨AW0, cW0, rfl, rfl, HW0, b3⟩ := hcut
    have B_3 := Lib.hid (below_then B_2.out b3)
    have s_3 := b3.size
    have K1_3 := Lib.hid (Ge.blk_keep b3 K1_2.out)
    have K2_3 := Lib.hid (Ge.blk_keep b3 K2_2.out)
    clear v1x0 v1x1 v1x2 v1x3 v2x0 v2x1 v2x2 v2x3
    have W0_3 := Lib.hid HW0.out.nums
    clear b3 B_2 K1_2 K2_2 lt_K1 lt_K2 At0 At2 HW0 CS
    rename World => w3
    go_wp2_with fail
    refine (T0.out _ ((R0.out.below B_3.out (Nat.le_refl _)).more B_3.out.size)).mono ?_
    rintro e w4 ⟨g4, arr4, rfl, hg4, b4, k4, a4⟩
    have B_4 := Lib.hid (below_then B_3.out b4)
    have s_4 := b4.size
    have K1_4 := Lib.hid (Ge.blk_keep b4 K1_3.out)
    have K2_4 := Lib.hid (Ge.blk_keep b4 K2_3.out)
    have W0_4 := Lib.hid (W0_3.out.below b4 (by omega))
    have H0_4 := Lib.hid (lasts_of_copy R0.out k4.out a4.out)
    have C0_4 := Lib.hid (Bw.own_of_copy k4.out a4.out)
    have lg0 := lt_of_heap k4.out
    have hh0 := hg4
    clear b4 B_3 K1_3 K2_3 W0_3 hg4 k4 a4
    obtain ⟨v2x0, v2x1, v2x2, v2x3⟩ := Ge.blk4 K2_4.out
    go_wp2_with fail
    refine (T2.out _ ((R2.out.below B_4.out (Nat.le_refl _)).more B_4.out.size)).mono ?_
    rintro e w5 ⟨g5, rfl, hg5, a5, b5⟩
    have B_5 := Lib.hid (below_then B_4.out b5)
    have s_5 := b5.size
    have K1_5 := Lib.hid (Ge.blk_keep b5 K1_4.out)
    have K2_5 := Lib.hid (Ge.blk_keep b5 K2_4.out)
    have W0_5 := Lib.hid (W0_4.out.below b5 (by omega))
    have H0_5 := Lib.hid ((H0_4.out.below b5 (Nat.le_refl _)).more b5.size)
    have C0_5 := Lib.hid (C0_4.out.below b5)
    have H2_5 := Lib.hid (at_nums a5.out)
    have C2_5 := Lib.hid (a5.out)
    have lg2 := a5.out.1
    have hh2 := hg5
    clear v2x0 v2x1 v2x2 v2x3
    clear b5 B_4 K1_4 K2_4 W0_4 H0_4 C0_4 hg5 a5
    have bb := below_box w5 (fiC mn2 mx2 gi2 (some ⟨g5, 0, none⟩) n2 n2 37)
    have kx2 := Lib.hid (heap_alloc_new w5 (fiC mn2 mx2 gi2 (some ⟨g5, 0, none⟩) n2 n2 37))
    have B_6 := Lib.hid (below_then B_5.out bb)
    have s_6 := bb.size
    have K1_6 := Lib.hid (Ge.blk_keep bb K1_5.out)
    have K2_6 := Lib.hid (Ge.blk_keep bb K2_5.out)
    have W0_6 := Lib.hid (W0_5.out.below bb (by omega))
    have H0_6 := Lib.hid ((H0_5.out.below bb (Nat.le_refl _)).more bb.size)
    have C0_6 := Lib.hid (C0_5.out.below bb)
    have H2_6 := Lib.hid ((H2_5.out.below bb (Nat.le_refl _)).more bb.size)
    have C2_6 := Lib.hid (C2_5.out.below bb)
    go_upto_region 11 with fail
    clear B_5 K1_5 K2_5 W0_5 H0_5 C0_5 H2_5 C2_5 bb
    generalize hww : w5.alloc (fiC mn2 mx2 gi2 (some ⟨g5, 0, none⟩) n2 n2 37) = w6 at B_6 s_6 kx2 K1_6 K2_6 W0_6 H0_6 C0_6 H2_6 C2_6 ⊢
    have X2_6 := kx2
    have lx2 := lt_of_heap X2_6.out
    clear hww kx2
    obtain ⟨v1x0, v1x1, v1x2, v1x3⟩ := Ge.blk4 K1_6.out
    obtain ⟨v2x0, v2x1, v2x2, v2x3⟩ := Ge.blk4 K2_6.out
    obtain ⟨y2x0, y2x1, y2x2, y2x3⟩ := Ge.blk4 X2_6.out
    have lt_K1 := lt_of_heap K1_6.out
    have lt_K2 := lt_of_heap K2_6.out
    have lt_X2 := lt_of_heap X2_6.out
    go_upto_region 11 with fail
    have HA0 : Hid (∀ W, Below w6.heap.size w6 W → Lasts W W.heap.size (some ⟨g4, 0, none⟩) n0 N0 F0) := Lib.hid fun W h => (H0_6.out.below h (Nat.le_refl _)).more h.size
    have HA2 : Hid (∀ W, Below w6.heap.size w6 W → Nums W W.heap.size (some ⟨g5, 0, none⟩) n2 p2) := Lib.hid fun W h => (H2_6.out.below h (Nat.le_refl _)).more h.size
    go_cut [12, 13] (fun z0 z1 wx => ∃ Aq0 cq0, z0 = .slice Aq0 m cq0 ∧ z1 = .int .i64 cd ∧ Hid (Own wx w6.heap.size Aq0 m d) ∧ Below w6.heap.size w6 wx)
    case first =>
      clear Q0 M0 Q2 M2 EQ_m MK_m HE_m hM_m neM_m hb_m R0 R2 K1_6 K2_6 X2_6 W0_6 H0_6 C0_6 H2_6 C2_6 B_6
      go_region_held3 (fun w' => w'.cell? ⟨w.heap.size, 0, none⟩ = some (.int .i64 (a1 0)) ∧ w'.cell? ⟨w.heap.size, 1, none⟩ = some (.int .i64 (a1 1)) ∧ w'.cell? ⟨w.heap.size, 2, none⟩ = some (.int .i64 (a1 2)) ∧ w'.cell? ⟨w.heap.size, 3, none⟩ = some (.int .i64 (a1 3)) ∧ w'.cell? ⟨w.heap.size + 1, 0, none⟩ = some (.int .i64 mn2) ∧ w'.cell? ⟨w.heap.size + 1, 1, none⟩ = some (.int .i64 mx2) ∧ w'.cell? ⟨w.heap.size + 1, 2, none⟩ = some (.int .i64 gi2) ∧ w'.cell? ⟨w.heap.size + 1, 3, none⟩ = some (.slice A2 n2 c2) ∧ w'.cell? ⟨w5.heap.size, 0, none⟩ = some (.int .i64 mn2) ∧ w'.cell? ⟨w5.heap.size, 1, none⟩ = some (.int .i64 mx2) ∧ w'.cell? ⟨w5.heap.size, 2, none⟩ = some (.int .i64 gi2) ∧ w'.cell? ⟨w5.heap.size, 3, none⟩ = some (.slice (some ⟨g5, 0, none⟩) n2 n2))
        (first | (refine ⟨?_, ?_, ?_, ?_, ?_, ?_, ?_, ?_, ?_, ?_, ?_, ?_⟩ <;> (refine Bw.keep_of (w2 := w6) ?_ (by omega) (by assumption); (repeat (first | (with_reducible exact Below.refl _ _) | (with_reducible exact BN) | refine Below.drew ?_)))))
        (first | (go_at_call 17; (with_reducible refine (T1.out _).mono ?_); rintro e wa ⟨rfl, ba⟩; have BN := below_then (w0 := w6) ?_ ba; rotate_left; (focus (repeat (first | (with_reducible exact Below.refl _ _) | (with_reducible exact BN) | refine Below.drew ?_)))) | (go_at_call 26; (with_reducible refine (CI.out _ _ _ _ _ (HA0.out _ ?_) (HA2.out _ ?_)).mono ?_); (focus (repeat (first | (with_reducible exact Below.refl _ _) | (with_reducible exact BN) | refine Below.drew ?_))); (focus (repeat (first | (with_reducible exact Below.refl _ _) | (with_reducible exact BN) | refine Below.drew ?_))); rintro e wa ⟨Aq0, cq0, rfl, Hq0, ba⟩; have Hq0 := Lib.hid (Bw.own_later Hq0.out (show w6.heap.size ≤ _ from ?_)); rotate_left; (focus (first | (have := BN.size; simpa using this) | omega)); have BN := below_then (w0 := w6) ?_ ba; rotate_left; (focus (repeat (first | (with_reducible exact Below.refl _ _) | (with_reducible exact BN) | refine Below.drew ?_)))))
      all_goals
        go_wp2_with fail
        go_meet
        refine ⟨Aq0, cq0, rfl, rfl, ?_, ?_⟩
        · first | (with_reducible exact Hq0) | exact Hq0
        · first | (with_reducible exact BN) | (refine Below.drew ?_; with_reducible exact BN)
    case rest =>
      obtain ⟨AG0, cG0, rfl, rfl, HG0, b7⟩ := hcut
      have B_7 := Lib.hid (below_then B_6.out b7)
      have s_7 := b7.size
      have K1_7 := Lib.hid (Ge.blk_keep b7 K1_6.out)
      have K2_7 := Lib.hid (Ge.blk_keep b7 K2_6.out)
      have W0_7 := Lib.hid (W0_6.out.below b7 (by omega))
      have H0_7 := Lib.hid ((H0_6.out.below b7 (Nat.le_refl _)).more b7.size)
      have C0_7 := Lib.hid (C0_6.out.below b7)
      have H2_7 := Lib.hid ((H2_6.out.below b7 (Nat.le_refl _)).more b7.size)
      have C2_7 := Lib.hid (C2_6.out.below b7)
      have X2_7 := Lib.hid (Ge.blk_keep b7 X2_6.out)
      clear v1x0 v1x1 v1x2 v1x3 v2x0 v2x1 v2x2 v2x3 y2x0 y2x1 y2x2 y2x3
      have G0_7 := HG0
      clear b7 B_6 K1_6 K2_6 W0_6 H0_6 C0_6 H2_6 C2_6 X2_6 lt_K1 lt_K2 lt_X2 HA0 HA2 HG0
      rename World => w7
      go_wp2_with fail
      refine (EQ_m.out _ _ _ _ _ G0_7.out.nums (W0_7.out.more (by omega))).mono ?_
      rintro e w8 ⟨rfl, b8⟩
      have B_8 := Lib.hid (below_then B_7.out b8)
      have s_8 := b8.size
      have K1_8 := Lib.hid (Ge.blk_keep b8 K1_7.out)
      have K2_8 := Lib.hid (Ge.blk_keep b8 K2_7.out)
      have W0_8 := Lib.hid (W0_7.out.below b8 (by omega))
      have H0_8 := Lib.hid ((H0_7.out.below b8 (Nat.le_refl _)).more b8.size)
      have C0_8 := Lib.hid (C0_7.out.below b8)
      have H2_8 := Lib.hid ((H2_7.out.below b8 (Nat.le_refl _)).more b8.size)
      have C2_8 := Lib.hid (C2_7.out.below b8)
      have X2_8 := Lib.hid (Ge.blk_keep b8 X2_7.out)
      have G0_8 := Lib.hid (G0_7.out.below b8)
      clear b8 B_7 K1_7 K2_7 W0_7 H0_7 C0_7 H2_7 C2_7 X2_7 G0_7
      go_wp2_with fail
      refine (T0.out _ ((R0.out.below B_8.out (Nat.le_refl _)).more B_8.out.size)).mono ?_
      rintro e w9 ⟨g9, arr9, rfl, hg9, b9, k9, a9⟩
      have B_9 := Lib.hid (below_then B_8.out b9)
      have s_9 := b9.size
      have K1_9 := Lib.hid (Ge.blk_keep b9 K1_8.out)
      have K2_9 := Lib.hid (Ge.blk_keep b9 K2_8.out)
      have W0_9 := Lib.hid (W0_8.out.below b9 (by omega))
      have H0_9 := Lib.hid ((H0_8.out.below b9 (Nat.le_refl _)).more b9.size)
      have C0_9 := Lib.hid (C0_8.out.below b9)
      have H2_9 := Lib.hid ((H2_8.out.below b9 (Nat.le_refl _)).more b9.size)
      have C2_9 := Lib.hid (C2_8.out.below b9)
      have X2_9 := Lib.hid (Ge.blk_keep b9 X2_8.out)
      have G0_9 := Lib.hid (G0_8.out.below b9)
      have I0_9 := Lib.hid (lasts_of_copy R0.out k9.out a9.out)
      clear b9 B_8 K1_8 K2_8 W0_8 H0_8 C0_8 H2_8 C2_8 X2_8 G0_8 hg9 k9 a9
      go_wp2_with fail
      refine (Q0.out _ _ _ _ _ H0_9.out I0_9.out).mono ?_
      rintro e w10 ⟨rfl, b10⟩
      have B_10 := Lib.hid (below_then B_9.out b10)
      have s_10 := b10.size
      have K1_10 := Lib.hid (Ge.blk_keep b10 K1_9.out)
      have K2_10 := Lib.hid (Ge.blk_keep b10 K2_9.out)
      have W0_10 := Lib.hid (W0_9.out.below b10 (by omega))
      have H0_10 := Lib.hid ((H0_9.out.below b10 (Nat.le_refl _)).more b10.size)
      have C0_10 := Lib.hid (C0_9.out.below b10)
      have H2_10 := Lib.hid ((H2_9.out.below b10 (Nat.le_refl _)).more b10.size)
      have C2_10 := Lib.hid (C2_9.out.below b10)
      have X2_10 := Lib.hid (Ge.blk_keep b10 X2_9.out)
      have G0_10 := Lib.hid (G0_9.out.below b10)
      have I0_10 := Lib.hid ((I0_9.out.below b10 (Nat.le_refl _)).more b10.size)
      clear b10 B_9 K1_9 K2_9 W0_9 H0_9 C0_9 H2_9 C2_9 X2_9 G0_9 I0_9
      clear I0_10
      clear H0_10
      obtain ⟨v1x0, v1x1, v1x2, v1x3⟩ := Ge.blk4 K1_10.out
      obtain ⟨v2x0, v2x1, v2x2, v2x3⟩ := Ge.blk4 K2_10.out
      obtain ⟨y2x0, y2x1, y2x2, y2x3⟩ := Ge.blk4 X2_10.out
      have lt_K1 := lt_of_heap K1_10.out
      have lt_K2 := lt_of_heap K2_10.out
      have lt_X2 := lt_of_heap X2_10.out
      have At2 : Hid (∀ W, Below w10.heap.size w10 W → Nums W W.heap.size A2 n2 p2) := Lib.hid fun W h => (R2.out.below (below_then B_10.out h) (Nat.le_refl _)).more (below_then B_10.out h).size
      go_upto_region 16 with fail
      have HA2 : Hid (∀ W, Below w10.heap.size w10 W → Nums W W.heap.size (some ⟨g5, 0, none⟩) n2 p2) := Lib.hid fun W h => (H2_10.out.below h (Nat.le_refl _)).more h.size
      go_cut [69] (fun z0 wx => z0 = .bool false ∧ Below w10.heap.size w10 wx)
      case first =>
        clear T0 Q0 M0 T1 M2 EQ_m MK_m HE_m hM_m neM_m hb_m CI K1_10 K2_10 W0_10 C0_10 C2_10 X2_10 G0_10 H2_10 B_10
        go_region_held3 (fun w' => w'.cell? ⟨w.heap.size, 0, none⟩ = some (.int .i64 (a1 0)) ∧ w'.cell? ⟨w.heap.size, 1, none⟩ = some (.int .i64 (a1 1)) ∧ w'.cell? ⟨w.heap.size, 2, none⟩ = some (.int .i64 (a1 2)) ∧ w'.cell? ⟨w.heap.size, 3, none⟩ = some (.int .i64 (a1 3)) ∧ w'.cell? ⟨w.heap.size + 1, 0, none⟩ = some (.int .i64 mn2) ∧ w'.cell? ⟨w.heap.size + 1, 1, none⟩ = some (.int .i64 mx2) ∧ w'.cell? ⟨w.heap.size + 1, 2, none⟩ = some (.int .i64 gi2) ∧ w'.cell? ⟨w.heap.size + 1, 3, none⟩ = some (.slice A2 n2 c2) ∧ w'.cell? ⟨w5.heap.size, 0, none⟩ = some (.int .i64 mn2) ∧ w'.cell? ⟨w5.heap.size, 1, none⟩ = some (.int .i64 mx2) ∧ w'.cell? ⟨w5.heap.size, 2, none⟩ = some (.int .i64 gi2) ∧ w'.cell? ⟨w5.heap.size, 3, none⟩ = some (.slice (some ⟨g5, 0, none⟩) n2 n2))
          (first | (refine ⟨?_, ?_, ?_, ?_, ?_, ?_, ?_, ?_, ?_, ?_, ?_, ?_⟩ <;> (refine Bw.keep_of (w2 := w10) ?_ (by omega) (by assumption); (repeat (first | (with_reducible exact Below.refl _ _) | (with_reducible exact BN) | refine Below.drew ?_)))))
          (first | (go_at_call 18; (with_reducible refine (T2.out _ (At2.out _ ?_)).mono ?_); (focus (repeat (first | (with_reducible exact Below.refl _ _) | (with_reducible exact BN) | refine Below.drew ?_))); rintro e wa ⟨gZ, rfl, hgZ, aZ, ba⟩; have I2 := Lib.hid (at_nums aZ.out); clear hgZ aZ; have BN := below_then (w0 := w10) ?_ ba; rotate_left; (focus (repeat (first | (with_reducible exact Below.refl _ _) | (with_reducible exact BN) | refine Below.drew ?_)))) | (go_at_call 20; (with_reducible refine (Q2.out _ _ _ _ _ (HA2.out _ ?_) ?_).mono ?_); (focus (repeat (first | (with_reducible exact Below.refl _ _) | (with_reducible exact BN) | refine Below.drew ?_))); (focus (exact I2.out)); rintro e wa ⟨rfl, ba⟩; have BN := below_then (w0 := w10) ?_ ba; rotate_left; (focus (repeat (first | (with_reducible exact Below.refl _ _) | (with_reducible exact BN) | refine Below.drew ?_)))))
        all_goals
          go_wp2_with fail
          go_meet
          refine ⟨rfl, ?_⟩
          first | (with_reducible exact BN) | (refine Below.drew ?_; with_reducible exact BN)
      case rest =>
        obtain ⟨rfl, b11⟩ := hcut
        have B_11 := Lib.hid (below_then B_10.out b11)
        have s_11 := b11.size
        have K1_11 := Lib.hid (Ge.blk_keep b11 K1_10.out)
        have K2_11 := Lib.hid (Ge.blk_keep b11 K2_10.out)
        have W0_11 := Lib.hid (W0_10.out.below b11 (by omega))
        have C0_11 := Lib.hid (C0_10.out.below b11)
        have H2_11 := Lib.hid ((H2_10.out.below b11 (Nat.le_refl _)).more b11.size)
        have C2_11 := Lib.hid (C2_10.out.below b11)
        have X2_11 := Lib.hid (Ge.blk_keep b11 X2_10.out)
        have G0_11 := Lib.hid (G0_10.out.below b11)
        clear v1x0 v1x1 v1x2 v1x3 v2x0 v2x1 v2x2 v2x3 y2x0 y2x1 y2x2 y2x3
        clear b11 B_10 K1_10 K2_10 W0_10 C0_10 H2_10 C2_10 X2_10 G0_10 lt_K1 lt_K2 lt_X2 At2 HA2
        rename World => w11
        clear H2_11
        go_wp2_with fail
        refine (M0.out (1) (by omega) (by omega) _ _ _ C0_11.out).mono ?_
        rintro e w12 ⟨rfl, b12⟩
        have B_12 := Lib.hid (B_11.out.trans (b12.below (by omega) B_11.out.size))
        have s_12 := b12.size
        have K1_12 := Lib.hid (Bw.blk_but K1_11.out b12 (by omega))
        have K2_12 := Lib.hid (Bw.blk_but K2_11.out b12 (by omega))
        have W0_12 := Lib.hid (Bw.nums_but W0_11.out b12 (by omega))
        have C2_12 := Lib.hid (Bw.at_but C2_11.out b12 (by omega))
        have X2_12 := Lib.hid (Bw.blk_but X2_11.out b12 (by omega))
        have G0_12 := Lib.hid (Bw.own_but G0_11.out b12 (by omega))
        clear b12 C0_11 B_11 K1_11 K2_11 W0_11 C2_11 X2_11 G0_11
        obtain ⟨y2x0, y2x1, y2x2, y2x3⟩ := Ge.blk4 X2_12.out
        go_wp2_with fail
        refine (M2.out (((1 : Int) + 6 * (n0 : Int))) (by omega) (by omega) _ _ _ C2_12.out).mono ?_
        rintro e w13 ⟨rfl, b13⟩
        have B_13 := Lib.hid (B_12.out.trans (b13.below (by omega) B_12.out.size))
        have s_13 := b13.size
        have K1_13 := Lib.hid (Bw.blk_but K1_12.out b13 (by omega))
        have K2_13 := Lib.hid (Bw.blk_but K2_12.out b13 (by omega))
        have W0_13 := Lib.hid (Bw.nums_but W0_12.out b13 (by omega))
        have X2_13 := Lib.hid (Bw.blk_but X2_12.out b13 (by omega))
        have G0_13 := Lib.hid (Bw.own_but G0_12.out b13 (by omega))
        clear y2x0 y2x1 y2x2 y2x3
        clear b13 C2_12 B_12 K1_12 K2_12 W0_12 X2_12 G0_12
        have hK : ¬ (((1 : Int) + 6 * (n0 : Int)) : Int) + (n2 : Int) < 0 := by omega
        generalize (((1 : Int) + 6 * (n0 : Int)) : Int) + (n2 : Int) = K at hK ⊢
        go_wp2_with fail
        refine (EQ_m.out _ _ _ _ _ G0_13.out.nums (W0_13.out.more (by omega))).mono ?_
        rintro e w14 ⟨rfl, b14⟩
        have B_14 := Lib.hid (below_then B_13.out b14)
        have s_14 := b14.size
        have K1_14 := Lib.hid (Ge.blk_keep b14 K1_13.out)
        have K2_14 := Lib.hid (Ge.blk_keep b14 K2_13.out)
        have W0_14 := Lib.hid (W0_13.out.below b14 (by omega))
        have X2_14 := Lib.hid (Ge.blk_keep b14 X2_13.out)
        have G0_14 := Lib.hid (G0_13.out.below b14)
        clear b14 B_13 K1_13 K2_13 W0_13 X2_13 G0_13
        go_wp2_with fail
        refine (MK_m.out _ _ w6.heap.size _ (by omega) G0_14.out).mono ?_
        rintro e w15 ⟨rfl, h15, b15⟩
        have B_15 := Lib.hid (B_14.out.trans (b15.mono (by omega)))
        have s_15 := b15.size
        have K1_15 := Lib.hid ((b15.block _ (by omega)).trans K1_14.out)
        have K2_15 := Lib.hid ((b15.block _ (by omega)).trans K2_14.out)
        have W0_15 := Lib.hid (W0_14.out.below b15 (by omega))
        have X2_15 := Lib.hid ((b15.block _ (by omega)).trans X2_14.out)
        have G0_15 := Lib.hid h15
        clear b15 h15 B_14 K1_14 K2_14 W0_14 X2_14 G0_14
        go_wp2_with fail
        refine (HE_m.out _ _ _ G0_15.out.nums).mono ?_
        rintro e w16 ⟨rfl, b16⟩
        have B_16 := Lib.hid (below_then B_15.out b16)
        have s_16 := b16.size
        have K1_16 := Lib.hid (Ge.blk_keep b16 K1_15.out)
        have K2_16 := Lib.hid (Ge.blk_keep b16 K2_15.out)
        have W0_16 := Lib.hid (W0_15.out.below b16 (by omega))
        have X2_16 := Lib.hid (Ge.blk_keep b16 X2_15.out)
        have G0_16 := Lib.hid (G0_15.out.below b16)
        clear b16 B_15 K1_15 K2_15 W0_15 X2_15 G0_15
        obtain ⟨v1x0, v1x1, v1x2, v1x3⟩ := Ge.blk4 K1_16.out
        obtain ⟨v2x0, v2x1, v2x2, v2x3⟩ := Ge.blk4 K2_16.out
        obtain ⟨y2x0, y2x1, y2x2, y2x3⟩ := Ge.blk4 X2_16.out
        have lt_K1 := lt_of_heap K1_16.out
        have lt_K2 := lt_of_heap K2_16.out
        have lt_X2 := lt_of_heap X2_16.out
        have At0 : Hid (∀ W, Below w16.heap.size w16 W → Lasts W W.heap.size A0 n0 N0 F0) := Lib.hid fun W h => (R0.out.below (below_then B_16.out h) (Nat.le_refl _)).more (below_then B_16.out h).size
        have At2 : Hid (∀ W, Below w16.heap.size w16 W → Nums W W.heap.size A2 n2 p2) := Lib.hid fun W h => (R2.out.below (below_then B_16.out h) (Nat.le_refl _)).more (below_then B_16.out h).size
        go_upto_region 31 with fail
        go_cut [17, 18] (fun z0 z1 wx => ∃ Aq0 cq0, z0 = .slice Aq0 m cq0 ∧ z1 = .int .i64 cd ∧ Hid (Own wx w16.heap.size Aq0 m d) ∧ Below w16.heap.size w16 wx)
        case first =>
          clear Q0 M0 Q2 M2 EQ_m MK_m HE_m hM_m neM_m hb_m K1_16 K2_16 X2_16 W0_16 G0_16 B_16
          go_region_held3 (fun w' => w'.cell? ⟨w.heap.size, 0, none⟩ = some (.int .i64 (a1 0)) ∧ w'.cell? ⟨w.heap.size, 1, none⟩ = some (.int .i64 (a1 1)) ∧ w'.cell? ⟨w.heap.size, 2, none⟩ = some (.int .i64 (a1 2)) ∧ w'.cell? ⟨w.heap.size, 3, none⟩ = some (.int .i64 (a1 3)) ∧ w'.cell? ⟨w.heap.size + 1, 0, none⟩ = some (.int .i64 mn2) ∧ w'.cell? ⟨w.heap.size + 1, 1, none⟩ = some (.int .i64 mx2) ∧ w'.cell? ⟨w.heap.size + 1, 2, none⟩ = some (.int .i64 gi2) ∧ w'.cell? ⟨w.heap.size + 1, 3, none⟩ = some (.slice A2 n2 c2) ∧ w'.cell? ⟨w5.heap.size, 0, none⟩ = some (.int .i64 mn2) ∧ w'.cell? ⟨w5.heap.size, 1, none⟩ = some (.int .i64 mx2) ∧ w'.cell? ⟨w5.heap.size, 2, none⟩ = some (.int .i64 gi2) ∧ w'.cell? ⟨w5.heap.size, 3, none⟩ = some (.slice (some ⟨g5, 0, none⟩) n2 n2))
            (first | (refine ⟨?_, ?_, ?_, ?_, ?_, ?_, ?_, ?_, ?_, ?_, ?_, ?_⟩ <;> (refine Bw.keep_of (w2 := w16) ?_ (by omega) (by assumption); (repeat (first | (with_reducible exact Below.refl _ _) | (with_reducible exact BN) | refine Below.drew ?_)))))
            (first | (go_at_call 25; (with_reducible refine (T0.out _ (At0.out _ ?_)).mono ?_); (focus (repeat (first | (with_reducible exact Below.refl _ _) | (with_reducible exact BN) | refine Below.drew ?_))); rintro e wa ⟨gZ, arrZ, rfl, hgZ, ba, kZ, aZ⟩; have I0 := Lib.hid (lasts_of_copy R0.out kZ.out aZ.out); (try (have I2 := Lib.hid (((by exact I2 : Hid (Nums _ _ _ _ _)).out.below ba (Nat.le_refl _)).more ba.size))); clear hgZ kZ aZ; have BN := below_then (w0 := w16) ?_ ba; rotate_left; (focus (repeat (first | (with_reducible exact Below.refl _ _) | (with_reducible exact BN) | refine Below.drew ?_)))) | (go_at_call 17; (with_reducible refine (T1.out _).mono ?_); rintro e wa ⟨rfl, ba⟩; (try (have I0 := Lib.hid (((by exact I0 : Hid (Lasts _ _ _ _ _ _)).out.below ba (Nat.le_refl _)).more ba.size))); (try (have I2 := Lib.hid (((by exact I2 : Hid (Nums _ _ _ _ _)).out.below ba (Nat.le_refl _)).more ba.size))); have BN := below_then (w0 := w16) ?_ ba; rotate_left; (focus (repeat (first | (with_reducible exact Below.refl _ _) | (with_reducible exact BN) | refine Below.drew ?_)))) | (go_at_call 18; (with_reducible refine (T2.out _ (At2.out _ ?_)).mono ?_); (focus (repeat (first | (with_reducible exact Below.refl _ _) | (with_reducible exact BN) | refine Below.drew ?_))); rintro e wa ⟨gZ, rfl, hgZ, aZ, ba⟩; have I2 := Lib.hid (at_nums aZ.out); (try (have I0 := Lib.hid (((by exact I0 : Hid (Lasts _ _ _ _ _ _)).out.below ba (Nat.le_refl _)).more ba.size))); clear hgZ aZ; have BN := below_then (w0 := w16) ?_ ba; rotate_left; (focus (repeat (first | (with_reducible exact Below.refl _ _) | (with_reducible exact BN) | refine Below.drew ?_)))) | (go_at_call 26; (with_reducible refine (CI.out _ _ _ _ _ ?_ ?_).mono ?_); (focus (exact I0.out)); (focus (exact I2.out)); rintro e wa ⟨Aq0, cq0, rfl, Hq0, ba⟩; have Hq0 := Lib.hid (Bw.own_later Hq0.out (show w16.heap.size ≤ _ from ?_)); rotate_left; (focus (first | (have := BN.size; simpa using this) | omega)); have BN := below_then (w0 := w16) ?_ ba; rotate_left; (focus (repeat (first | (with_reducible exact Below.refl _ _) | (with_reducible exact BN) | refine Below.drew ?_)))))
          all_goals
            go_wp2_with fail
            go_meet
            refine ⟨Aq0, cq0, rfl, rfl, ?_, ?_⟩
            · first | (with_reducible exact Hq0) | exact Hq0
            · first | (with_reducible exact BN) | (refine Below.drew ?_; with_reducible exact BN)
        case rest =>
          obtain ⟨AO0, cO0, rfl, rfl, HO0, b17⟩ := hcut
          have B_17 := Lib.hid (below_then B_16.out b17)
          have s_17 := b17.size
          have K1_17 := Lib.hid (Ge.blk_keep b17 K1_16.out)
          have K2_17 := Lib.hid (Ge.blk_keep b17 K2_16.out)
          have W0_17 := Lib.hid (W0_16.out.below b17 (by omega))
          have X2_17 := Lib.hid (Ge.blk_keep b17 X2_16.out)
          have G0_17 := Lib.hid (G0_16.out.below b17)
          clear v1x0 v1x1 v1x2 v1x3 v2x0 v2x1 v2x2 v2x3 y2x0 y2x1 y2x2 y2x3
          have O0_17 := HO0
          clear b17 B_16 K1_16 K2_16 W0_16 X2_16 G0_16 lt_K1 lt_K2 lt_X2 At0 At2 HO0
          rename World => w17
          go_wp2_with fail
          refine (EQ_m.out _ _ _ _ _ O0_17.out.nums (W0_17.out.more (by omega))).mono ?_
          rintro e w18 ⟨rfl, b18⟩
          have B_18 := Lib.hid (below_then B_17.out b18)
          have s_18 := b18.size
          have K1_18 := Lib.hid (Ge.blk_keep b18 K1_17.out)
          have K2_18 := Lib.hid (Ge.blk_keep b18 K2_17.out)
          have W0_18 := Lib.hid (W0_17.out.below b18 (by omega))
          have X2_18 := Lib.hid (Ge.blk_keep b18 X2_17.out)
          have G0_18 := Lib.hid (G0_17.out.below b18)
          have O0_18 := Lib.hid (O0_17.out.below b18)
          clear b18 B_17 K1_17 K2_17 W0_17 X2_17 G0_17 O0_17
          go_wp2_with fail
          refine (HE_m.out _ _ _ G0_18.out.nums).mono ?_
          rintro e w19 ⟨rfl, b19⟩
          have B_19 := Lib.hid (below_then B_18.out b19)
          have s_19 := b19.size
          have K1_19 := Lib.hid (Ge.blk_keep b19 K1_18.out)
          have K2_19 := Lib.hid (Ge.blk_keep b19 K2_18.out)
          have W0_19 := Lib.hid (W0_18.out.below b19 (by omega))
          have X2_19 := Lib.hid (Ge.blk_keep b19 X2_18.out)
          have G0_19 := Lib.hid (G0_18.out.below b19)
          have O0_19 := Lib.hid (O0_18.out.below b19)
          clear b19 B_18 K1_18 K2_18 W0_18 X2_18 G0_18 O0_18
          go_wp2_with fail
          go_ret
          exact ⟨rfl, B_19.out⟩
theorem law (A0 : Option Addr) (n0 c0 : Nat) (N0 : Nat → ByteArray) (F0 : Nat → Nat → Int) (q10 q11 q12 q13 : Int) (mn2 mx2 gi2 : Int) (A2 : Option Addr) (n2 c2 : Nat) (p2 : Nat → Int) (w : World) (hR0 : Lasts w w.heap.size A0 n0 N0 F0) (w10 : (Lit.int .i64 q10).wf = true) (w11 : (Lit.int .i64 q11).wf = true) (w12 : (Lit.int .i64 q12).wf = true) (w13 : (Lit.int .i64 q13).wf = true) (_ : (Lit.int .i64 mn2).wf = true) (_ : (Lit.int .i64 mx2).wf = true) (_ : (Lit.int .i64 gi2).wf = true) (hm2 : n2 ≤ maxLen) (hR2 : Nums w w.heap.size A2 n2 p2) :
    Calls Try.prog 5 #[.slice A0 n0 c0, .agg #[.int .i64 q10, .int .i64 q11, .int .i64 q12, .int .i64 q13], .agg #[.int .i64 mn2, .int .i64 mx2, .int .i64 gi2, .slice A2 n2 c2]] w fun e w' => e = .returned (.bool true) ∧ Below w.heap.size w w' :=
  core A0 n0 c0 N0 F0 (Bw.of4 q10 q11 q12 q13) mn2 mx2 gi2 A2 n2 c2 p2 w hR0 (Bw.wf4 w10 w11 w12 w13) hm2 hR2
end Go.Proofs.Ytaoknbhpjnileab.Am
