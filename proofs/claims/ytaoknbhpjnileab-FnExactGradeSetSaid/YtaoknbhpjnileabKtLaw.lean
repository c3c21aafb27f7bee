/- The walk of the law of GradeSet. -/
import Derived.Test.YtaoknbhpjnileabKtLib
import Derived.Test.YtaoknbhpjnileabGvLaw
import Derived.Deep.RegionHeld3
namespace Go.Proofs.Ytaoknbhpjnileab.Kt
open Go.RowKit Go.Shelf Ft Ge Qb La Ga Fg Jo Gl Ks

theorem gs_len (s : ByteArray) (x g : Nat → Int) (a b : Int) : gsN s x g a b ≤ 61 := by
  unfold gsN
  split
  · rename_i h
    unfold gsC at h
    split at h
    · split at h
      · rename_i hr
        simp only [Bool.and_eq_true] at hr
        have h1 : -30 ≤ a ∧ a ≤ 30 := by simpa [inB] using hr.1
        have h2 : a ≤ b ∧ b ≤ 30 := by simpa [inB] using hr.2
        unfold stN
        omega
      · cases h
    · cases h
  · omega
theorem keep_of {w2 w' : World} {g i : Nat} {v : Value} (hb : Below w2.heap.size w2 w') (hg : g < w2.heap.size) (h : w2.cell? ⟨g, i, none⟩ = some v) : w'.cell? ⟨g, i, none⟩ = some v := (hb.cell (p := ⟨g, i, none⟩) hg).trans h
theorem ownv_later {w' : World} {B B' : Nat} {A : Option Addr} {n : Nat} {V : Nat → Value} (h : OwnV w' B' A n V) (hs : B ≤ B') : OwnV w' B A n V := fun hp => by
  obtain ⟨b, off, e, h1, h2, h3, h4⟩ := h hp
  exact ⟨b, off, e, by omega, h2, h3, h4⟩
set_option maxRecDepth 100000 in
set_option maxHeartbeats 4000000 in
theorem core (s : ByteArray) (x g : Nat → Int) (a b : Int) (hs : s.size ≤ maxLen) (hz : s.size ≤ 1048576) (w : World) :
    Calls Try.prog 6 #[laV s x, fvV g, .int .i64 a, .int .i64 b] w fun e w' => e = .returned (.bool true) ∧ Below w.heap.size w w' := by
  have C := Lib.hid (fun w => sz_last s x 1048576 (by omega) (by omega) w)
  have hle : ¬ (1048576 : Int) - s.size < 0 := by omega
  generalize (1048576 : Int) - s.size = l at C hle
  have CT := Lib.hid (fun w => to_last s x w)
  have CG := Lib.hid (fun w => to_grade g w)
  have CS := Lib.hid (fun w => spec_gs s x g a b hs w)
  have CI := Lib.hid (fun w => impl_gs s x g a b hs w)
  have hm := gs_len s x g a b
  unfold GsAt PairL at CS CI
  generalize gsN s x g a b = m at CS CI hm
  generalize gsC s x g a b = cd at CS CI
  have EQ := Lib.hid (fun A1 A2 c1 c2 w h1 h2 => eq_lasts A1 A2 m c1 c2 (fun _ => s) (fun i => ag x g (a + (i : Int))) (by omega) w h1 h2)
  generalize lv (fun _ => s) (fun i => ag x g (a + (i : Int))) = V at CS CI EQ
  have MK := Lib.hid (fun A c B w hB h => mark_lasts A m c 1 V (by omega) (by omega) (by omega) B w hB h)
  have HE := Lib.hid (fun A c w h => held_lasts A m c 1 (by omega) (by omega) (by omega) w h)
  have hM : 0 ≤ (1 : Int) + 6 * (m : Int) := by omega
  generalize (1 : Int) + 6 * (m : Int) = M at MK HE hM
  generalize mkv 1 = V1 at MK HE
  have n1 : (cd != cd) = false := by simp
  have n2 : (M != M) = false := by simp
  obtain ⟨_, kx, kg⟩ := Ba.boxes2 (Below.refl ((w.alloc (laC s x 23)).alloc (fvC g 56)).heap.size _)
  have B0 := Lib.hid (below_then (below_box w (laC s x 23)) (below_box _ (fvC g 56)))
  simp only [laV, fvV, laC, fvC] at kx kg B0 C CT CG CS CI ⊢
  generalize hx0 : x 0 = x0, x 1 = x1, x 2 = x2, x 3 = x3, x 4 = x4, g 0 = g0, g 1 = g1, g 2 = g2, g 3 = g3, g 4 = g4 at *
  clear hx0
  have KX := Lib.hid kx
  have KG := Lib.hid kg
  clear kg
  obtain ⟨v0, v1, v2, v3, v4, v5⟩ := blk6 kx
  clear kx
  go_enter Try.func6, Try.ntmps6
  go_upto_region 2 with fail
  generalize hw2 : (w.alloc _).alloc _ = w2 at KX KG B0 v0 v1 v2 v3 v4 v5 ⊢
  clear hw2
  go_wp2_with fail
  refine (C.out _).mono ?_
  rintro e w3 ⟨rfl, b3⟩
  have B3 := Lib.hid (below_then B0.out b3)
  have KX3 := Lib.hid (blk_keep b3 KX.out)
  have KG3 := Lib.hid (blk_keep b3 KG.out)
  clear b3 v0 v1 v2 v3 v4 v5 KX KG B0 C
  obtain ⟨v0, v1, v2, v3, v4, v5⟩ := blk6 KX3.out
  obtain ⟨u0, u1, u2, u3, u4⟩ := blk5 KG3.out
  have lx := lt_of_heap KX3.out
  have lg := lt_of_heap KG3.out
  go_upto_region 5 with fail
  go_cut [10, 11] (fun s8 s9 wx => ∃ A6 c6, s8 = .slice A6 m c6 ∧ s9 = .int .i64 cd ∧ Hid (OwnV wx w3.heap.size A6 (m * 6) V) ∧ Below w3.heap.size w3 wx)
  case first =>
    clear CI EQ MK HE hM n1 n2 KX3 KG3 B3 hle
    go_region_held3 (fun w' => w'.cell? ⟨w.heap.size, 0, none⟩ = some (.string s) ∧ w'.cell? ⟨w.heap.size, 1, none⟩ = some (.int .i64 x0) ∧ w'.cell? ⟨w.heap.size, 2, none⟩ = some (.int .i64 x1) ∧ w'.cell? ⟨w.heap.size, 3, none⟩ = some (.int .i64 x2) ∧ w'.cell? ⟨w.heap.size, 4, none⟩ = some (.int .i64 x3) ∧ w'.cell? ⟨w.heap.size, 5, none⟩ = some (.int .i64 x4) ∧ w'.cell? ⟨w.heap.size + 1, 0, none⟩ = some (.int .i64 g0) ∧ w'.cell? ⟨w.heap.size + 1, 1, none⟩ = some (.int .i64 g1) ∧ w'.cell? ⟨w.heap.size + 1, 2, none⟩ = some (.int .i64 g2) ∧ w'.cell? ⟨w.heap.size + 1, 3, none⟩ = some (.int .i64 g3) ∧ w'.cell? ⟨w.heap.size + 1, 4, none⟩ = some (.int .i64 g4))
      (first | (refine ⟨?_, ?_, ?_, ?_, ?_, ?_, ?_, ?_, ?_, ?_, ?_⟩ <;> (refine keep_of (w2 := w3) ?_ (by omega) (by assumption); (repeat (first | (with_reducible exact Below.refl _ _) | (with_reducible exact BN) | refine Below.drew ?_)))))
      (first | (go_at_call 16; (with_reducible refine (CT.out _).mono ?_); rintro e wa ⟨rfl, ba⟩; have BN := below_then (w0 := w3) ?_ ba; rotate_left; (focus (repeat (first | (with_reducible exact Below.refl _ _) | (with_reducible exact BN) | refine Below.drew ?_)))) | (go_at_call 34; (with_reducible refine (CG.out _).mono ?_); rintro e wa ⟨rfl, ba⟩; have BN := below_then (w0 := w3) ?_ ba; rotate_left; (focus (repeat (first | (with_reducible exact Below.refl _ _) | (with_reducible exact BN) | refine Below.drew ?_)))) | (go_at_call 33; (with_reducible refine (CS.out _).mono ?_); rintro e wa ⟨A6, c6, rfl, H6, ba⟩; have H6 := Lib.hid (ownv_later H6.out (show w3.heap.size ≤ _ from ?_)); rotate_left; (focus (first | (have := BN.size; simpa using this) | omega)); have BN := below_then (w0 := w3) ?_ ba; rotate_left; (focus (repeat (first | (with_reducible exact Below.refl _ _) | (with_reducible exact BN) | refine Below.drew ?_)))))
    all_goals
      go_wp2_with fail
      go_meet
      refine ⟨A6, c6, rfl, rfl, ?_, ?_⟩
      · first | (with_reducible exact H6) | exact H6
      · first | (with_reducible exact BN) | (refine Below.drew ?_; with_reducible exact BN)
  case rest =>
  obtain ⟨A5, c5, rfl, rfl, HO5, bc⟩ := hcut
  have B5 := Lib.hid (below_then B3.out bc)
  have HN5 := Lib.hid HO5.out.vals
  have KX5 := Lib.hid (blk_keep bc KX3.out)
  have KG5 := Lib.hid (blk_keep bc KG3.out)
  clear bc v0 v1 v2 v3 v4 v5 u0 u1 u2 u3 u4 lx lg KX3 KG3 B3 HO5 CS
  obtain ⟨v0, v1, v2, v3, v4, v5⟩ := blk6 KX5.out
  obtain ⟨u0, u1, u2, u3, u4⟩ := blk5 KG5.out
  have lx := lt_of_heap KX5.out
  have lg := lt_of_heap KG5.out
  rename World => w5
  go_upto_region 6 with fail
  go_cut [12, 13] (fun s8 s9 wx => ∃ A6 c6, s8 = .slice A6 m c6 ∧ s9 = .int .i64 cd ∧ Hid (OwnV wx w5.heap.size A6 (m * 6) V) ∧ Below w5.heap.size w5 wx)
  case first =>
    clear EQ MK HE hM n1 n2 KX5 KG5 B5 hle HN5
    go_region_held3 (fun w' => w'.cell? ⟨w.heap.size, 0, none⟩ = some (.string s) ∧ w'.cell? ⟨w.heap.size, 1, none⟩ = some (.int .i64 x0) ∧ w'.cell? ⟨w.heap.size, 2, none⟩ = some (.int .i64 x1) ∧ w'.cell? ⟨w.heap.size, 3, none⟩ = some (.int .i64 x2) ∧ w'.cell? ⟨w.heap.size, 4, none⟩ = some (.int .i64 x3) ∧ w'.cell? ⟨w.heap.size, 5, none⟩ = some (.int .i64 x4) ∧ w'.cell? ⟨w.heap.size + 1, 0, none⟩ = some (.int .i64 g0) ∧ w'.cell? ⟨w.heap.size + 1, 1, none⟩ = some (.int .i64 g1) ∧ w'.cell? ⟨w.heap.size + 1, 2, none⟩ = some (.int .i64 g2) ∧ w'.cell? ⟨w.heap.size + 1, 3, none⟩ = some (.int .i64 g3) ∧ w'.cell? ⟨w.heap.size + 1, 4, none⟩ = some (.int .i64 g4))
      (first | (refine ⟨?_, ?_, ?_, ?_, ?_, ?_, ?_, ?_, ?_, ?_, ?_⟩ <;> (refine keep_of (w2 := w5) ?_ (by omega) (by assumption); (repeat (first | (with_reducible exact Below.refl _ _) | (with_reducible exact BN) | refine Below.drew ?_)))))
      (first | (go_at_call 16; (with_reducible refine (CT.out _).mono ?_); rintro e wa ⟨rfl, ba⟩; have BN := below_then (w0 := w5) ?_ ba; rotate_left; (focus (repeat (first | (with_reducible exact Below.refl _ _) | (with_reducible exact BN) | refine Below.drew ?_)))) | (go_at_call 34; (with_reducible refine (CG.out _).mono ?_); rintro e wa ⟨rfl, ba⟩; have BN := below_then (w0 := w5) ?_ ba; rotate_left; (focus (repeat (first | (with_reducible exact Below.refl _ _) | (with_reducible exact BN) | refine Below.drew ?_)))) | (go_at_call 35; (with_reducible refine (CI.out _).mono ?_); rintro e wa ⟨A6, c6, rfl, H6, ba⟩; have H6 := Lib.hid (ownv_later H6.out (show w5.heap.size ≤ _ from ?_)); rotate_left; (focus (first | (have := BN.size; simpa using this) | omega)); have BN := below_then (w0 := w5) ?_ ba; rotate_left; (focus (repeat (first | (with_reducible exact Below.refl _ _) | (with_reducible exact BN) | refine Below.drew ?_)))))
    all_goals
      go_wp2_with fail
      go_meet
      refine ⟨A6, c6, rfl, rfl, ?_, ?_⟩
      · first | (with_reducible exact H6) | exact H6
      · first | (with_reducible exact BN) | (refine Below.drew ?_; with_reducible exact BN)
  case rest =>
  obtain ⟨A6, c6, rfl, rfl, HO6, bc⟩ := hcut
  have B6 := Lib.hid (below_then B5.out bc)
  have HN6 := Lib.hid (HN5.out.below bc (Nat.le_refl _))
  have KX6 := Lib.hid (blk_keep bc KX5.out)
  have KG6 := Lib.hid (blk_keep bc KG5.out)
  have s6 := bc.size
  have l5 := lt_of_heap KX5.out
  have l6 := lt_of_heap KG5.out
  clear bc v0 v1 v2 v3 v4 v5 u0 u1 u2 u3 u4 lx lg KX5 KG5 HN5
  rename World => w6
  go_wp2_with fail
  refine (EQ.out _ _ _ _ _ HO6.out.vals (HN6.out.more s6)).mono ?_
  rintro e w7 ⟨rfl, b7⟩
  have B7 := Lib.hid (below_then B6.out b7)
  have HO7 := Lib.hid (HO6.out.below b7)
  have HN7 := Lib.hid (HN6.out.below b7 s6)
  have KX7 := Lib.hid (blk_keep b7 KX6.out)
  have KG7 := Lib.hid (blk_keep b7 KG6.out)
  have s7 := b7.size
  clear b7 HO6 HN6 KX6 KG6
  go_wp2_with fail
  refine (MK.out _ _ w5.heap.size _ (by omega) HO7.out).mono ?_
  rintro e w8 ⟨rfl, ho8, b8⟩
  have B8 := Lib.hid (B7.out.trans (b8.mono (by have := B5.out.size; omega)))
  have HO8 := Lib.hid ho8
  have HN8 := Lib.hid (HN7.out.below b8 (Nat.le_refl _))
  have KX8 := Lib.hid ((b8.block w.heap.size l5).trans KX7.out)
  have KG8 := Lib.hid ((b8.block (w.heap.size + 1) l6).trans KG7.out)
  have s8 := b8.size
  clear b8 ho8 HO7 HN7 KX7 KG7 B7
  go_wp2_with fail
  refine (HE.out _ _ _ HO8.out.vals).mono ?_
  rintro e w9 ⟨rfl, b9⟩
  have B9 := Lib.hid (below_then B8.out b9)
  have HO9 := Lib.hid (HO8.out.below b9)
  have HN9 := Lib.hid (HN8.out.below b9 (by omega))
  have KX9 := Lib.hid (blk_keep b9 KX8.out)
  have KG9 := Lib.hid (blk_keep b9 KG8.out)
  have s9 := b9.size
  clear b9 HO8 HN8 KX8 KG8 B8
  obtain ⟨v0, v1, v2, v3, v4, v5⟩ := blk6 KX9.out
  obtain ⟨u0, u1, u2, u3, u4⟩ := blk5 KG9.out
  have lx := lt_of_heap KX9.out
  have lg := lt_of_heap KG9.out
  go_upto_region 17 with fail
  go_cut [16, 17] (fun s8 s9 wx => ∃ A6 c6, s8 = .slice A6 m c6 ∧ s9 = .int .i64 cd ∧ Hid (OwnV wx w9.heap.size A6 (m * 6) V) ∧ Below w9.heap.size w9 wx)
  case first =>
    clear EQ MK HE hM n1 n2 KX9 KG9 B9 hle HN9 HO9
    go_region_held3 (fun w' => w'.cell? ⟨w.heap.size, 0, none⟩ = some (.string s) ∧ w'.cell? ⟨w.heap.size, 1, none⟩ = some (.int .i64 x0) ∧ w'.cell? ⟨w.heap.size, 2, none⟩ = some (.int .i64 x1) ∧ w'.cell? ⟨w.heap.size, 3, none⟩ = some (.int .i64 x2) ∧ w'.cell? ⟨w.heap.size, 4, none⟩ = some (.int .i64 x3) ∧ w'.cell? ⟨w.heap.size, 5, none⟩ = some (.int .i64 x4) ∧ w'.cell? ⟨w.heap.size + 1, 0, none⟩ = some (.int .i64 g0) ∧ w'.cell? ⟨w.heap.size + 1, 1, none⟩ = some (.int .i64 g1) ∧ w'.cell? ⟨w.heap.size + 1, 2, none⟩ = some (.int .i64 g2) ∧ w'.cell? ⟨w.heap.size + 1, 3, none⟩ = some (.int .i64 g3) ∧ w'.cell? ⟨w.heap.size + 1, 4, none⟩ = some (.int .i64 g4))
      (first | (refine ⟨?_, ?_, ?_, ?_, ?_, ?_, ?_, ?_, ?_, ?_, ?_⟩ <;> (refine keep_of (w2 := w9) ?_ (by omega) (by assumption); (repeat (first | (with_reducible exact Below.refl _ _) | (with_reducible exact BN) | refine Below.drew ?_)))))
      (first | (go_at_call 16; (with_reducible refine (CT.out _).mono ?_); rintro e wa ⟨rfl, ba⟩; have BN := below_then (w0 := w9) ?_ ba; rotate_left; (focus (repeat (first | (with_reducible exact Below.refl _ _) | (with_reducible exact BN) | refine Below.drew ?_)))) | (go_at_call 34; (with_reducible refine (CG.out _).mono ?_); rintro e wa ⟨rfl, ba⟩; have BN := below_then (w0 := w9) ?_ ba; rotate_left; (focus (repeat (first | (with_reducible exact Below.refl _ _) | (with_reducible exact BN) | refine Below.drew ?_)))) | (go_at_call 35; (with_reducible refine (CI.out _).mono ?_); rintro e wa ⟨A6, c6, rfl, H6, ba⟩; have H6 := Lib.hid (ownv_later H6.out (show w9.heap.size ≤ _ from ?_)); rotate_left; (focus (first | (have := BN.size; simpa using this) | omega)); have BN := below_then (w0 := w9) ?_ ba; rotate_left; (focus (repeat (first | (with_reducible exact Below.refl _ _) | (with_reducible exact BN) | refine Below.drew ?_)))))
    all_goals
      go_wp2_with fail
      go_meet
      refine ⟨A6, c6, rfl, rfl, ?_, ?_⟩
      · first | (with_reducible exact H6) | exact H6
      · first | (with_reducible exact BN) | (refine Below.drew ?_; with_reducible exact BN)
  case rest =>
  obtain ⟨A10, c10, rfl, rfl, HO10, bc⟩ := hcut
  have B10 := Lib.hid (below_then B9.out bc)
  have HN10 := Lib.hid (HN9.out.below bc (by omega))
  have HM10 := Lib.hid (HO9.out.below bc)
  have s10 := bc.size
  clear bc v0 v1 v2 v3 v4 v5 u0 u1 u2 u3 u4 lx lg KX9 KG9 HN9 HO9
  rename World => w10
  go_wp2_with fail
  refine (EQ.out _ _ _ _ _ HO10.out.vals (HN10.out.more (by omega))).mono ?_
  rintro e w11 ⟨rfl, b11⟩
  have B11 := Lib.hid (below_then B10.out b11)
  have HM11 := Lib.hid (HM10.out.below b11)
  clear b11 HO10 HN10 HM10
  go_wp2_with fail
  refine (HE.out _ _ _ HM11.out.vals).mono ?_
  rintro e w12 ⟨rfl, b12⟩
  have B12 := Lib.hid (below_then B11.out b12)
  clear b12
  go_wp2_with fail
  go_ret
  exact ⟨rfl, B12.out⟩
theorem law (s : ByteArray) (l b i h q : Int) (a0 a1 a2 a3 a4 st en : Int) (w : World) (hs : s.size ≤ maxLen) (_ : (Lit.int .i64 l).wf = true) (_ : (Lit.int .i64 b).wf = true) (_ : (Lit.int .i64 i).wf = true) (_ : (Lit.int .i64 h).wf = true) (_ : (Lit.int .i64 q).wf = true)
    (_ : (Lit.int .i64 a0).wf = true) (_ : (Lit.int .i64 a1).wf = true) (_ : (Lit.int .i64 a2).wf = true) (_ : (Lit.int .i64 a3).wf = true) (_ : (Lit.int .i64 a4).wf = true) (_ : (Lit.int .i64 st).wf = true) (_ : (Lit.int .i64 en).wf = true) :
    Calls Try.prog 6 #[.agg #[.string s, .int .i64 l, .int .i64 b, .int .i64 i, .int .i64 h, .int .i64 q], .agg #[.int .i64 a0, .int .i64 a1, .int .i64 a2, .int .i64 a3, .int .i64 a4], .int .i64 st, .int .i64 en] w fun e w' => e = .returned (.bool true) ∧ Below w.heap.size w w' := by
  show Calls Try.prog 6 #[laV s (Gv.of5 l b i h q), fvV (Gv.of5 a0 a1 a2 a3 a4), .int .i64 st, .int .i64 en] w _
  generalize Gv.of5 l b i h q = x
  generalize Gv.of5 a0 a1 a2 a3 a4 = g
  by_cases hbig : 1048576 < s.size
  · have C := Lib.hid (fun w => sz_last_big s x 1048576 (by omega) hs (by omega) (by omega) w)
    have HW := Lib.hid (below2 w (laC s x 23) (fvC g 56))
    go_enter Try.func6, Try.ntmps6
    go_wp2_with fail
    refine (C.out _).mono ?_
    rintro e w1 ⟨rfl, b1⟩
    have HB := Lib.hid (below_then HW.out b1)
    clear b1
    go_wp2_with fail
    go_ret
    exact ⟨rfl, HB.out⟩
  exact core s x g st en hs (by omega) w
end Go.Proofs.Ytaoknbhpjnileab.Kt
