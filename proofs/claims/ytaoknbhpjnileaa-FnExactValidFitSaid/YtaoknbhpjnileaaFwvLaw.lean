/- The walk of the law of ValidFit. -/
import Derived.Test.YtaoknbhpjnileaaFvLib
import Derived.Deep.RegionHeld3
import Derived.Deep.DeepCutAuto
namespace Go.Proofs.Ytaoknbhpjnileaa.Fw
open Go.RowKit Ft Is Ge Qb Fi

theorem keep_of {w2 W : World} {g o : Nat} {v : Value} (hb : Below w2.heap.size w2 W) (hg : g < w2.heap.size) (h : w2.cell? ⟨g, o, none⟩ = some v) : W.cell? ⟨g, o, none⟩ = some v := (hb.cell (p := ⟨g, o, none⟩) hg).trans h
theorem nums_drew {w w' : World} {A : Option Addr} {n : Nat} {f : Nat → Int} (h : Nums w w.heap.size A n f) (e : w' = w ∨ w' = w.drew) : Nums w' w'.heap.size A n f := by
  rcases e with rfl | rfl <;> exact h
set_option maxRecDepth 100000 in
set_option maxHeartbeats 4000000 in
theorem law (mn mx gi : Int) (A : Option Addr) (n c : Nat) (f : Nat → Int) (w : World) (_ : (Lit.int .i64 mn).wf = true) (_ : (Lit.int .i64 mx).wf = true) (_ : (Lit.int .i64 gi).wf = true) (hm : n ≤ maxLen) (hA : Nums w w.heap.size A n f) :
    Calls Try.prog 13 #[fitV mn mx gi A n c] w fun e w' => e = .returned (.bool true) ∧ Below w.heap.size w w' := by
  by_cases hbig : 1048576 < n
  · have C := Lib.hid (fun w => sz_fit_big mn mx gi A n c 1048576 (by omega) hm (by omega) (by omega) w)
    clear hA
    go_enter Try.func13, Try.ntmps13
    go_wp2_with fail
    refine (C.out _).mono ?_
    rintro e w1 ⟨rfl, b1⟩
    have HB := Lib.hid (below_then (below_box _ _) b1)
    clear b1
    go_wp2_with fail
    go_ret
    exact ⟨rfl, HB.out⟩
  have hn : n ≤ 1048576 := by omega
  have C := Lib.hid (fun w => sz_fit mn mx gi A n c 1048576 (by omega) (by omega) w)
  have hle : ¬ (1048576 : Int) - n < 0 := by omega
  generalize (1048576 : Int) - n = l at C hle
  have HA := Lib.hid hA
  have CS := Lib.hid (fun A n c hn w h => (spec_valid mn mx gi A n c f hn w h).mono fun _ _ t => tells_tv t)
  have CI := Lib.hid (fun A n c hn w h => (impl_fit mn mx gi A n c f hn w h).mono fun _ _ t => tells_tv t)
  have CT := Lib.hid (fun w h => to_fit mn mx gi A n c f hn w h)
  have CE := Lib.hid (fun A1 A2 c1 c2 w h1 h2 => eq_fit mn mx gi A1 A2 n c1 c2 f hn w h1 h2)
  clear hA hbig
  go_enter Try.func13, Try.ntmps13
  go_wp2_with fail
  refine (C.out _).mono ?_
  rintro e w1 ⟨rfl, b1⟩
  have HB1 := Lib.hid (below_then (below_box _ _) b1)
  have K1 := Lib.hid (blk_keep b1 (heap_alloc_new _ _))
  clear b1 C
  obtain ⟨x0, x1, x2, x3⟩ := blk4 K1.out
  go_wp2_with fail
  refine (CT.out _ ((HA.out.below HB1.out (Nat.le_refl _)).more HB1.out.size)).mono ?_
  rintro e w2 ⟨g2, rfl, _, H2, b2⟩
  have HB2 := Lib.hid (below_then HB1.out b2)
  have K2 := Lib.hid (blk_keep b2 K1.out)
  clear b2 x0 x1 x2 x3
  obtain ⟨x0, x1, x2, x3⟩ := blk4 K2.out
  go_wp2_with fail
  refine (CS.out _ _ _ hn _ (at_nums H2.out)).mono ?_
  rintro e w3 ⟨rfl, b3⟩
  have HB3 := Lib.hid (below_then HB2.out b3)
  have K3 := Lib.hid (blk_keep b3 K2.out)
  clear b3 x0 x1 x2 x3
  obtain ⟨x0, x1, x2, x3⟩ := blk4 K3.out
  go_wp2_with fail
  refine (CT.out _ ((HA.out.below HB3.out (Nat.le_refl _)).more HB3.out.size)).mono ?_
  rintro e w4 ⟨g4, rfl, _, H4, b4⟩
  have HB4 := Lib.hid (below_then HB3.out b4)
  have K4 := Lib.hid (blk_keep b4 K3.out)
  clear b4 x0 x1 x2 x3
  have KX4 := Lib.hid (heap_alloc_new w4 (.cells #[.int .i64 mn, .int .i64 mx, .int .i64 gi, .slice (some ⟨g4, 0, none⟩) n n] 68))
  have HB4' := Lib.hid (HB4.out.alloc HB4.out.size (.cells #[.int .i64 mn, .int .i64 mx, .int .i64 gi, .slice (some ⟨g4, 0, none⟩) n n] 68))
  have H4' := Lib.hid (H4.out.below (below_box w4 (.cells #[.int .i64 mn, .int .i64 mx, .int .i64 gi, .slice (some ⟨g4, 0, none⟩) n n] 68)))
  have K4' := Lib.hid (blk_keep (below_box w4 (.cells #[.int .i64 mn, .int .i64 mx, .int .i64 gi, .slice (some ⟨g4, 0, none⟩) n n] 68)) K4.out)
  have e4 : Hid (g4 < w4.heap.size) := Lib.hid H4.out.1
  clear H4 K4 HB4
  go_wp2_with fail
  generalize hs4 : w4.heap.size = s4 at KX4 e4 ⊢
  generalize w4.alloc (.cells #[.int .i64 mn, .int .i64 mx, .int .i64 gi, .slice (some ⟨g4, 0, none⟩) n n] 68) = w4' at KX4 HB4' H4' K4' ⊢
  clear hs4
  refine (CI.out _ _ _ hn _ (at_nums H4'.out)).mono ?_
  rintro e w5 ⟨rfl, b5⟩
  have HB5 := Lib.hid (below_then HB4'.out b5)
  have H5 := Lib.hid (H4'.out.below b5)
  have K5 := Lib.hid (blk_keep b5 K4'.out)
  have KX5 := Lib.hid (blk_keep b5 KX4.out)
  clear b5
  obtain ⟨x0, x1, x2, x3⟩ := blk4 K5.out
  obtain ⟨y0, y1, y2, y3⟩ := blk4 KX5.out
  generalize tv (FitOk mn mx gi n f) = r
  cases r
  all_goals
    have la5 := lt_of_heap K5.out
    have lx5 := lt_of_heap KX5.out
    have HA5 := Lib.hid ((HA.out.below HB5.out (Nat.le_refl _)).more HB5.out.size)
    clear HA HB1 HB2 HB3 HB4' H2 H4' K1 K2 K3 K4' KX4 CS CI
    go_wp2_with fail
    go_region_held3 (fun w' => w'.cell? ⟨w.heap.size, 0, none⟩ = some (.int .i64 mn) ∧ w'.cell? ⟨w.heap.size, 1, none⟩ = some (.int .i64 mx) ∧ w'.cell? ⟨w.heap.size, 2, none⟩ = some (.int .i64 gi) ∧ w'.cell? ⟨w.heap.size, 3, none⟩ = some (.slice A n c) ∧
        w'.cell? ⟨s4, 0, none⟩ = some (.int .i64 mn) ∧ w'.cell? ⟨s4, 1, none⟩ = some (.int .i64 mx) ∧ w'.cell? ⟨s4, 2, none⟩ = some (.int .i64 gi) ∧ w'.cell? ⟨s4, 3, none⟩ = some (.slice (some ⟨g4, 0, none⟩) n n))
      (first | (refine ⟨?_, ?_, ?_, ?_, ?_, ?_, ?_, ?_⟩ <;> (refine keep_of (w2 := w5) ?_ (by omega) (by assumption); (repeat (first | (with_reducible exact Below.refl _ _) | (with_reducible exact B7) | (with_reducible exact B6) | refine Below.drew ?_)))))
      (first | (go_at_call 49; with_reducible refine (CT.out _ (nums_drew HA5.out ?_)).mono ?_; (focus (first | (with_reducible exact .inl rfl) | (with_reducible exact .inr rfl))); rintro e w6 ⟨g6, rfl, q6, H6, b6⟩; have B6 := below_then (w0 := w5) ?_ b6; rotate_left; (focus (repeat (first | (with_reducible exact Below.refl _ _) | refine Below.drew ?_))); have H7 := H5.out.below B6) | (go_at_call 51; with_reducible refine (CE.out _ _ _ _ _ (nums_drew (at_nums H7) ?_) (nums_drew (at_nums H6.out) ?_)).mono ?_; (focus (first | (with_reducible exact .inl rfl) | (with_reducible exact .inr rfl))); (focus (first | (with_reducible exact .inl rfl) | (with_reducible exact .inr rfl))); rintro e w7 ⟨rfl, b7⟩; have B7 := below_then (w0 := w5) ?_ b7; rotate_left; (focus (repeat (first | (with_reducible exact Below.refl _ _) | (with_reducible exact B7) | (with_reducible exact B6) | refine Below.drew ?_)))))
    all_goals
      have HF := Lib.hid (below_then HB5.out B7)
      clear b6 b7 B6 B7 H6 H7 x0 x1 x2 x3 y0 y1 y2 y3
      go_wp2_with fail
      go_ret
      exact ⟨rfl, HF.out⟩
end Go.Proofs.Ytaoknbhpjnileaa.Fw
