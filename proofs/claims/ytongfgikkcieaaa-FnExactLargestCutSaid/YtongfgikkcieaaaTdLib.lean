/- Hides: the program's LargestCut. -/
import Derived.Test.YtongfgikkcieaaaTcLib
namespace Go.Proofs.Ytongfgikkcieaaa.Td
set_option linter.unusedVariables false
open Go.RowKit Ft Is Ge Qb Hd Ts H2 H3 H4 T1 T2 T3 T4 T5 T6 Tc
open Go.Proofs.Ytongfgikkcieaaa.Nm (byt byt_of)

abbrev cO (a b : Nat) (q : Int) : Obj := .cells #[.int .i64 (a : Int), .int .i64 (b : Int), .int .i64 q, .int .i64 0] 42 (0, 0)
/-- What stays while the largest rectangle is looked for. -/
structure Lg (w wr : World) (h l : Nat) (q : Obj) (a b : Nat) (Q : Int) : Prop where
  bel : Below w.heap.size w wr
  hid : wr.heap[h]? = some q
  lar : wr.heap[l]? = some (cO a b Q)
  hw : w.heap.size ≤ h
  hl : h < l
theorem Lg.below {w wr w' : World} {h l : Nat} {q : Obj} {a b : Nat} {Q : Int} (H : Lg w wr h l q a b Q) (hb : Below wr.heap.size wr w') : Lg w w' h l q a b Q := ⟨below_then H.bel hb, blk_keep hb H.hid, blk_keep hb H.lar, H.hw, H.hl⟩
theorem Lg.set4 {w wr : World} {h l : Nat} {q : Obj} {a b : Nat} {Q : Int} (H : Lg w wr h l q a b Q) (a' b' : Nat) (Q' : Int) : Lg w ((((wr.setCell ⟨l, 0, none⟩ (.int .i64 (a' : Int))).setCell ⟨l, 1, none⟩ (.int .i64 (b' : Int))).setCell ⟨l, 2, none⟩ (.int .i64 Q')).setCell ⟨l, 3, none⟩ (.int .i64 0)) h l q a' b' Q' := by
  have h1 := H.hw
  have h2 := H.hl
  have hg : w.heap.size ≤ l := by omega
  refine ⟨(((H.bel.setCell (p := ⟨l, 0, none⟩) hg _).setCell (p := ⟨l, 1, none⟩) hg _).setCell (p := ⟨l, 2, none⟩) hg _).setCell (p := ⟨l, 3, none⟩) hg _, ?_, ?_, h1, h2⟩
  · rw [Below.heap_setCell _ _ _ _ (by show h ≠ l; omega), Below.heap_setCell _ _ _ _ (by show h ≠ l; omega), Below.heap_setCell _ _ _ _ (by show h ≠ l; omega), Below.heap_setCell _ _ _ _ (by show h ≠ l; omega)]
    exact H.hid
  · exact heap_set (heap_set (heap_set (heap_set H.lar 0 _) 1 _) 2 _) 3 _
theorem gd_at {n C : Nat} {q : Nat → Nat → Int} {g1 g2 g3 : Nat} (h : gdN n C q 1 = g1 ∧ gdN n C q 2 = g2 ∧ gdN n C q 3 = g3) {Q : Int} (hQ : 1 ≤ Q ∧ Q ≤ 3) : (Q = 1 ∧ gdN n C q Q = g1) ∨ (Q = 2 ∧ gdN n C q Q = g2) ∨ (Q = 3 ∧ gdN n C q Q = g3) := by
  obtain ⟨q1, q2, q3⟩ := h
  have hq : Q = 1 ∨ Q = 2 ∨ Q = 3 := by omega
  rcases hq with e | e | e
  · rw [e]; exact .inl ⟨rfl, q1⟩
  · rw [e]; exact .inr (.inl ⟨rfl, q2⟩)
  · rw [e]; exact .inr (.inr ⟨rfl, q3⟩)
theorem fo_bool {n D : Nat} (q : Nat → Nat → Int) (W H : Nat) (Q : Int) (t : Nat) (hn : n ≤ 6) (hD : 1 ≤ D ∧ D ≤ 6) (ht : t < n * D) (hW : 1 ≤ W) : (decide (t % D + W ≤ D) && decide (pcN D W t H &&& (18446744073709551615 - gdN n D q Q) = 0)) = tv (FitP n D q (W : Int) (H : Int) Q t) := by
  by_cases e : t % D + W ≤ D
  · rw [decide_eq_true e, Bool.true_and]
    by_cases q2 : FitP n D q (W : Int) (H : Int) Q t
    · rw [tv_yes q2, decide_eq_true ((fit_iff q W H Q t hn hD ht hW e).2 q2)]
    · rw [tv_no q2, decide_eq_false fun x => q2 ((fit_iff q W H Q t hn hD ht hW e).1 x)]
  · rw [decide_eq_false e, Bool.false_and, tv_no fun x => e (by have := x.2.1; omega)]
/-- A rectangle of this size fits somewhere: the program's answer. -/
theorem some_lc {n : Nat} {f : Nat → ByteArray} (hH : HideP n f) (g0 g1 g2 g3 : Nat) (hg : gdN n (f 0).size (qf f) 1 = g1 ∧ gdN n (f 0).size (qf f) 2 = g2 ∧ gdN n (f 0).size (qf f) 3 = g3) (W H : Nat) (Q : Int) (hQ : 1 ≤ Q ∧ Q ≤ 3) (hW : 1 ≤ W ∧ W ≤ 6) (hHh : H ≤ 6) (w : World) :
    Calls Try.prog 73 #[hdV n (f 0).size (jnS f n) g0 g1 g2 g3, cuV W H Q 0] w fun e w' => e = .returned (.bool (lcP n f Q W H)) ∧ Below w.heap.size w w' := by
  have hal := hide_al hH
  have hC := hal.2.2
  have hn6 := hal.2.1
  have hjs := jn_size hal.1
  have h36 := size_36 hn6.2 hC.2
  refine isome n (f 0).size (jnS f n) g0 g1 g2 g3 W H Q 0 (fun t => tv (FitP n (f 0).size (qf f) (W : Int) (H : Int) Q t)) (lcP n f Q W H) (by rw [hjs]; exact h36) (fun t ht w => ?_) (fun h => lc_none.2 fun t ht => h t (by rw [hjs]; exact ht)) (fun t ht h => ?_) w
  · rw [hjs] at ht
    have := ifo n (f 0).size (jnS f n) g0 g1 g2 g3 W H Q 0 t (gdN n (f 0).size (qf f) Q) hC hW hHh (by omega) (gd_64 (qf f) Q hn6.2 hC.2) (gd_at hg hQ) w
    rw [fo_bool (qf f) W H Q t hn6.2 hC ht hW.1] at this
    exact this
  · cases hl : lcP n f Q W H
    · have := lc_none.1 hl t (by rw [← hjs]; exact ht)
      rw [this] at h
      cases h
    · rfl
set_option maxRecDepth 100000 in
set_option maxHeartbeats 4000000 in
theorem impl_lc (A : Option Addr) (n c : Nat) (f : Nat → ByteArray) (q : Int) (hn : n ≤ 1048576) (hs : ∀ i, i < n → (f i).size ≤ 1048576) (hcap : n ≤ c) (w : World) (hA : Txts w w.heap.size A n f) :
    Calls Try.prog 35 #[.slice A n c, .int .i64 q] w (LcAt n f q w) := by
  have C := Lib.hid (ihide A n c f hn hs hcap w hA)
  unfold HoAt at C
  have V0 : Hid (tv (HideP n f) = false → ∀ W, Below w.heap.size w W → LcAt n f q w (.returned (.tuple #[.int .i64 0, .int .i64 0, .int .i64 1])) W) := Lib.hid fun h W hb => ⟨by unfold lcW lcH lcC; rw [h]; simp, hb⟩
  have V1 : Hid (tv (HideP n f) = true → Ba.inB q 1 3 = false → ∀ W, Below w.heap.size w W → LcAt n f q w (.returned (.tuple #[.int .i64 0, .int .i64 0, .int .i64 2])) W) := Lib.hid fun h h1 W hb => ⟨by unfold lcW lcH lcC; rw [h, h1]; simp, hb⟩
  have V2 : Hid (tv (HideP n f) = true → Ba.inB q 1 3 = true → ∀ s, s = lcOut (lcP n f q) 6 → s.1 = 0 → ∀ W, Below w.heap.size w W → LcAt n f q w (.returned (.tuple #[.int .i64 0, .int .i64 0, .int .i64 3])) W) := Lib.hid fun h h1 s e h2 W hb => ⟨by rw [e] at h2; unfold lcW lcH lcC; rw [h, h1, h2]; simp, hb⟩
  have V3 : Hid (tv (HideP n f) = true → Ba.inB q 1 3 = true → ∀ s, s = lcOut (lcP n f q) 6 → ¬ s.1 = 0 → ∀ W, Below w.heap.size w W → LcAt n f q w (.returned (.tuple #[.int .i64 (s.1 : Int), .int .i64 (s.2 : Int), .int .i64 0])) W) := Lib.hid fun h h1 s e h2 W hb => ⟨by rw [e] at h2 ⊢; unfold lcW lcH lcC; rw [h, h1]; simp [h2], hb⟩
  generalize LcAt n f q w = POST at V0 V1 V2 V3 ⊢
  have CQ := Lib.hid (fun w => iqual q w)
  have CE := Lib.hid (fun v w => Ba.arg_inv v w)
  have CR := Lib.hid (fun w => Ba.arg_rng w)
  have CO := Lib.hid (fun w => Ba.arg_ok w)
  have IN := Lib.hid (@Ba.in_of q 1 3)
  clear hA hs
  generalize Ba.inB q 1 3 = r1 at CQ V1 V2 V3 IN
  by_cases hok : tv (HideP n f) = false
  · have HF := Lib.hid (V0.out hok)
    rw [hv_no hok, hok] at C
    have HBX := Lib.hid (fun w => below_box w (bx0 0 0 ⟨#[]⟩ 0 0 0 0))
    clear V0 V1 V2 V3 hok
    go_enter Try.func35, Try.ntmps35
    go_wp2_with fail
    refine C.out.mono ?_
    rintro e w1 ⟨rfl, b1⟩
    have HB := Lib.hid (below_then b1 (HBX.out w1))
    clear b1 C HBX
    go_wp2_with fail
    refine (CQ.out _).mono ?_
    rintro e w' ⟨rfl, rfl⟩
    go_wp2_with fail
    refine (CE.out _ _).mono ?_
    rintro e w' ⟨rfl, rfl⟩
    go_wp2_with fail
    exact bodyPost_ret (v := .tuple #[.int .i64 0, .int .i64 0, .int .i64 1]) (by simp [results, Try.results35, go_sem]) rfl (HF.out _ HB.out)
  have hok : tv (HideP n f) = true := by simpa using hok
  have hh : HideP n f := tv_iff.1 hok
  have hal := hide_al hh
  have hC := hal.2.2
  have hn6 := hal.2.1
  rw [hv_yes hh, hok] at C
  have W1 := Lib.hid (V1.out hok)
  have W2 := Lib.hid (V2.out hok)
  have W3 := Lib.hid (V3.out hok)
  have ALL := Lib.hid (fun s h => lc_all (n := n) (f := f) (q := q) (s := s) hC hn6.2 h)
  have SM := Lib.hid (fun (hQ : 1 ≤ q ∧ q ≤ 3) (W H : Nat) hW hHh w => some_lc hh (gdN n (f 0).size (qf f) 0) (gdN n (f 0).size (qf f) 1) (gdN n (f 0).size (qf f) 2) (gdN n (f 0).size (qf f) 3) ⟨rfl, rfl, rfl⟩ W H q hQ hW hHh w)
  generalize gdN n (f 0).size (qf f) 0 = g0 at C SM
  generalize gdN n (f 0).size (qf f) 1 = g1 at C SM
  generalize gdN n (f 0).size (qf f) 2 = g2 at C SM
  generalize gdN n (f 0).size (qf f) 3 = g3 at C SM
  generalize jnS f n = S at C SM
  generalize (f 0).size = D at C SM hC ALL
  generalize lcP n f q = p at W2 W3 ALL SM
  have HBX := Lib.hid (fun w => below_box w (bx0 n D S g0 g1 g2 g3))
  have HKX := Lib.hid (fun w => heap_alloc_new w (bx0 n D S g0 g1 g2 g3))
  clear V0 V1 V2 V3 hok hh hal
  go_enter Try.func35, Try.ntmps35
  go_wp2_with fail
  refine C.out.mono ?_
  rintro e w1 ⟨rfl, b1⟩
  have HB := Lib.hid (below_then b1 (HBX.out w1))
  have KH := Lib.hid (HKX.out w1)
  have hw1 := Lib.hid b1.size
  clear b1 C HBX HKX
  go_wp2_with fail
  refine (CQ.out _).mono ?_
  rintro e w' ⟨rfl, rfl⟩
  cases r1
  · have HF := Lib.hid (W1.out (by first | rfl | trivial))
    clear W1 W2 W3
    go_wp2_with fail
    refine (CR.out _).mono ?_
    rintro e w' ⟨rfl, rfl⟩
    go_wp2_with fail
    exact bodyPost_ret (v := .tuple #[.int .i64 0, .int .i64 0, .int .i64 2]) (by simp [results, Try.results35, go_sem]) rfl (HF.out _ HB.out)
  have W2b := Lib.hid (fun s e h => W2.out (by first | rfl | trivial) s e h)
  have W3b := Lib.hid (fun s e h => W3.out (by first | rfl | trivial) s e h)
  have SMb0 := Lib.hid (SM.out (IN.out (by first | rfl | trivial)))
  clear W1 W2 W3 SM CE CR IN CQ
  go_wp2_with fail
  refine (CO.out _).mono ?_
  rintro e w' ⟨rfl, rfl⟩
  clear CO
  go_upto_region 5 with fail
  generalize hw2 : w1.alloc _ = w2 at HB KH ⊢
  clear hw2
  have hww := hw1.out
  generalize w1.heap.size = bh at KH hww ⊢
  have hlt2 := lt_of_heap KH.out
  have LG : Hid (Lg w (w2.alloc (cO 0 0 0)) bh w2.heap.size (bx0 n D S g0 g1 g2 g3) 0 0 0) := Lib.hid ⟨below_then HB.out (below_box _ _), blk_old _ KH.out, heap_alloc_new _ _, hww, hlt2⟩
  clear HB KH hww hlt2 hw1
  go_upto_region 6 with fail
  generalize hw3 : w2.alloc _ = w3 at LG ⊢
  generalize w2.heap.size = bl at LG ⊢
  clear hw3
  go_wp2_with fail
  go_loopw [11] (fun x wr => ∃ (a sx sy : Nat) (Q : Int), 1 ≤ a ∧ a ≤ D + 1 ∧ (sx ≤ 6 ∧ sy ≤ 6) ∧ x = .int .i64 (a : Int) ∧ Hid (Lg w wr bh bl (bx0 n D S g0 g1 g2 g3) sx sy Q) ∧ Hid (Bst p (fun x y => 1 ≤ x ∧ x < a ∧ 1 ≤ y ∧ y ≤ n) (sx, sy))) (fun x _ => D + 1 - (intOf x).toNat)
  case atStart => exact ⟨1, 0, 0, 0, Nat.le_refl _, by omega, ⟨Nat.zero_le _, Nat.zero_le _⟩, rfl, LG, Lib.hid (.inl ⟨rfl, fun a b h => by omega⟩)⟩
  case round =>
    obtain ⟨a, sx, sy, Q, ha1, haD, hs12, rfl, HX, HS⟩ := hrel
    obtain ⟨k0, k1, k2, k3, k4, k5, k6⟩ := blk7 HX.out.hid
    have f0 : (0 : Int) ≤ (a : Int) := Int.natCast_nonneg _
    by_cases hlt : a ≤ D
    · have f1 : (a : Int) ≤ (D : Int) := by omega
      have haD1 : a + 1 ≤ D + 1 := by omega
      have ha6 : a ≤ 6 := by omega
      have HS0 : Hid (Bst p (fun x y => (1 ≤ x ∧ x < a ∧ 1 ≤ y ∧ y ≤ n) ∨ (x = a ∧ 1 ≤ y ∧ y < 1)) (sx, sy)) := Lib.hid (bst_ext HS.out (fun x y q => .inl q) fun x y q _ => by
        rcases q with q | q
        · exact q
        · omega)
      have SMa := Lib.hid (fun (H : Nat) hH w => SMb0.out a H ⟨ha1, ha6⟩ hH w)
      clear HS haD
      go_wp2_with fail
      clear k0 k1 k2 k3 k4 k5 k6
      go_loopw [12] (fun x wr => ∃ (b tx ty : Nat) (R : Int), 1 ≤ b ∧ b ≤ n + 1 ∧ (tx ≤ 6 ∧ ty ≤ 6) ∧ x = .int .i64 (b : Int) ∧ Hid (Lg w wr bh bl (bx0 n D S g0 g1 g2 g3) tx ty R) ∧ Hid (Bst p (fun x y => (1 ≤ x ∧ x < a ∧ 1 ≤ y ∧ y ≤ n) ∨ (x = a ∧ 1 ≤ y ∧ y < b)) (tx, ty))) (fun x _ => n + 1 - (intOf x).toNat)
      case atStart => exact ⟨1, sx, sy, Q, Nat.le_refl _, by omega, hs12, rfl, HX, HS0⟩
      case round =>
        obtain ⟨b, tx, ty, R, hb1, hbn, ht12, rfl, HV, HT⟩ := hrel
        obtain ⟨k0, k1, k2, k3, k4, k5, k6⟩ := blk7 HV.out.hid
        have j0 : (0 : Int) ≤ (b : Int) := Int.natCast_nonneg _
        by_cases hltb : b ≤ n
        · have j1 : (b : Int) ≤ (n : Int) := by omega
          have hb6 : b ≤ 6 := by omega
          have hbn1 : b + 1 ≤ n + 1 := by omega
          obtain ⟨UP1, UP2⟩ := bst_up ha1 hb1 (fun x y q => by rcases q with q | q <;> omega) HT.out
          have NY : Hid (tx * ty ≤ a * b → p a b = true → Bst p (fun x y => (1 ≤ x ∧ x < a ∧ 1 ≤ y ∧ y ≤ n) ∨ (x = a ∧ 1 ≤ y ∧ y < b + 1)) (a, b)) := Lib.hid fun h1 h2 => bst_ext (UP1 ⟨h1, h2⟩) (fun x y q => by omega) (fun x y q _ => by omega)
          have NN : Hid (¬ (tx * ty ≤ a * b ∧ p a b = true) → Bst p (fun x y => (1 ≤ x ∧ x < a ∧ 1 ≤ y ∧ y ≤ n) ∨ (x = a ∧ 1 ≤ y ∧ y < b + 1)) (tx, ty)) := Lib.hid fun h1 => bst_ext (UP2 h1) (fun x y q => by omega) (fun x y q _ => by omega)
          have SMb := Lib.hid (fun w => SMa.out b hb6 w)
          have A1 := Lib.hid (fun w => iarea a b q 0 ha6 hb6 w)
          have A2 := Lib.hid (fun w => iarea tx ty R 0 ht12.1 ht12.2 w)
          have HVc := Lib.hid (HV.out.below (below_box wr (cO a b q)))
          have KC := Lib.hid (heap_alloc_new wr (cO a b q))
          have hblw := Lib.hid (lt_of_heap HV.out.lar)
          generalize p a b = pb at NY NN SMb
          generalize htt : tx * ty = tt at NY NN A2
          generalize hab : a * b = ab at NY NN A1
          clear UP1 UP2 HT hbn HV htt hab
          go_upto_region 13 with fail
          generalize hw5 : wr.alloc _ = w5 at HVc KC ⊢
          clear hw5
          have hbc := hblw.out
          generalize wr.heap.size = bc at KC hbc ⊢
          clear k0 k1 k2 k3 k4 k5 k6 hblw
          obtain ⟨k0, k1, k2, k3, k4, k5, k6⟩ := blk7 HVc.out.hid
          obtain ⟨m0, m1, m2, m3⟩ := blk4 HVc.out.lar
          obtain ⟨v0, v1, v2, v3⟩ := blk4 KC.out
          have k0 := bey_cell k0
          have k1 := bey_cell k1
          have k2 := bey_cell k2
          have k3 := bey_cell k3
          have k4 := bey_cell k4
          have k5 := bey_cell k5
          have k6 := bey_cell k6
          have m0 := bey_cell m0
          have m1 := bey_cell m1
          have m2 := bey_cell m2
          have m3 := bey_cell m3
          have v0 := bey_cell v0
          have v1 := bey_cell v1
          have v2 := bey_cell v2
          have v3 := bey_cell v3
          have SMq := Lib.hid (fun x : Beyond w5 => SMb.out x.to)
          have A1q := Lib.hid (fun x : Beyond w5 => A1.out x.to)
          have A2q := Lib.hid (fun x : Beyond w5 => A2.out x.to)
          clear SMb A1 A2
          by_cases hge : tt ≤ ab
          · have g1 : (tt : Int) ≤ (ab : Int) := by omega
            have NY := Lib.hid (NY.out hge)
            have NN : Hid (pb = false → Bst p (fun x y => (1 ≤ x ∧ x < a ∧ 1 ≤ y ∧ y ≤ n) ∨ (x = a ∧ 1 ≤ y ∧ y < b + 1)) (tx, ty)) := Lib.hid fun h => NN.out fun e => by rw [h] at e; cases e.2
            clear hge
            refine wp_region_below (by kernel_rfl) (by kernel_rfl) ?_
            repeat (go_big_quiet_step ((first | (go_at_call_of 72 q; with_reducible exact bey_of _ (A1q.out _)) | (go_at_call_of 72 R; with_reducible exact bey_of _ (A2q.out _)) | (go_at_call 73; with_reducible exact bey_of _ (SMq.out _)))))
            refine wpQuiet_nil ?_
            rintro _ ⟨pq, rfl⟩
            have HQ := Lib.hid (HVc.out.below pq.h)
            have KQ := Lib.hid (blk_keep pq.h KC.out)
            generalize pq.to = wq at HQ KQ ⊢
            clear k0 k1 k2 k3 k4 k5 k6 m0 m1 m2 m3 v0 v1 v2 v3 SMq A1q A2q HVc KC
            cases pb
            · have HD := Lib.hid (NN.out (by first | rfl | trivial))
              clear NY NN KQ
              go_wp2_with fail
              go_roundw
              case rel => exact ⟨b + 1, tx, ty, R, by omega, hbn1, ht12, by go_num, HQ, HD⟩
              case measure => simp [intOf]; omega
            · have HD := Lib.hid (NY.out (by first | rfl | trivial))
              obtain ⟨v0, v1, v2, v3⟩ := blk4 KQ.out
              obtain ⟨m0, m1, m2, m3⟩ := blk4 HQ.out.lar
              have fz := free_row HQ.out.lar
              have HQ2 := Lib.hid (HQ.out.set4 a b q)
              have hne : bc ≠ bl := by omega
              have hne2 : bl ≠ bc := by omega
              clear NY NN KQ HQ hbc
              go_wp2_with fail
              go_roundw
              case rel => exact ⟨b + 1, a, b, q, by omega, hbn1, ⟨ha6, hb6⟩, by go_num, HQ2, HD⟩
              case measure => simp [intOf]; omega
          · have g1 : ¬ (tt : Int) ≤ (ab : Int) := by omega
            have HD := Lib.hid (NN.out fun e => hge e.1)
            clear hge NY NN
            refine wp_region_below (by kernel_rfl) (by kernel_rfl) ?_
            repeat (go_big_quiet_step ((first | (go_at_call_of 72 q; with_reducible exact bey_of _ (A1q.out _)) | (go_at_call_of 72 R; with_reducible exact bey_of _ (A2q.out _)) | (go_at_call 73; with_reducible exact bey_of _ (SMq.out _)))))
            refine wpQuiet_nil ?_
            rintro _ ⟨pq, rfl⟩
            have HQ := Lib.hid (HVc.out.below pq.h)
            generalize pq.to = wq at HQ ⊢
            clear k0 k1 k2 k3 k4 k5 k6 m0 m1 m2 m3 v0 v1 v2 v3 SMq A1q A2q HVc KC
            go_wp2_with fail
            go_roundw
            case rel => exact ⟨b + 1, tx, ty, R, by omega, hbn1, ht12, by go_num, HQ, HD⟩
            case measure => simp [intOf]; omega
        · have hbE : b = n + 1 := by omega
          have HD : Hid (Bst p (fun x y => 1 ≤ x ∧ x < a + 1 ∧ 1 ≤ y ∧ y ≤ n) (tx, ty)) := Lib.hid (bst_ext HT.out (fun x y q => by omega) fun x y q _ => by omega)
          have j1 : ¬ (b : Int) ≤ (n : Int) := by omega
          clear HT hltb hbE
          go_wp2_with fail
          go_roundw
          case rel => exact ⟨a + 1, tx, ty, R, by omega, haD1, ht12, by go_num, HV, HD⟩
          case measure => simp [intOf]; omega
    · have haE : a = D + 1 := by omega
      have HALL := Lib.hid (ALL.out (sx, sy) (bst_ext HS.out (fun x y q => by omega) fun x y q _ => by omega))
      have hpos : Hid (sx = 0 ∨ 1 ≤ sx * sy) := Lib.hid (by
        rcases HS.out with ⟨e, _⟩ | ⟨_, e2, e3, _, _⟩
        · exact .inl (Prod.ext_iff.1 e).1
        · exact .inr (Nat.mul_pos e2 e3))
      have A2 := Lib.hid (fun w => iarea sx sy Q 0 hs12.1 hs12.2 w)
      obtain ⟨m0, m1, m2, m3⟩ := blk4 HX.out.lar
      have f1 : ¬ (a : Int) ≤ (D : Int) := by omega
      clear HS hlt haD haE
      go_wp2_with fail
      refine (A2.out _).mono ?_
      rintro e w7 ⟨rfl, b7⟩
      have H7 := Lib.hid (HX.out.below b7)
      clear b7 HX A2 m0 m1 m2 m3 k0 k1 k2 k3 k4 k5 k6
      by_cases hz : sx = 0
      · have HF := Lib.hid (W2b.out _ HALL.out hz)
        have hzz : sx * sy = 0 := by rw [hz, Nat.zero_mul]
        rw [hzz]
        clear hpos
        go_wp2_with fail
        exact bodyPost_ret (v := .tuple #[.int .i64 0, .int .i64 0, .int .i64 3]) (by simp [results, Try.results35, go_sem]) rfl (HF.out _ H7.out.bel)
      · have HF := Lib.hid (W3b.out _ HALL.out hz)
        have hp1 : 1 ≤ sx * sy := by have := hpos.out; omega
        generalize sx * sy = ar at hp1 ⊢
        have hne : ((ar : Int) == 0) = false := beq_eq_false_iff_ne.2 (by omega)
        obtain ⟨m0, m1, m2, m3⟩ := blk4 H7.out.lar
        clear hpos
        go_upto_region 17 with fail
        go_quiet ((fail))
        go_wp2_with fail
        exact bodyPost_ret (v := .tuple #[.int .i64 sx, .int .i64 sy, .int .i64 0]) (by simp [results, Try.results35, go_sem]) rfl (HF.out _ (below_then H7.out.bel (He.below_drewN w7 _)))
end Go.Proofs.Ytongfgikkcieaaa.Td
