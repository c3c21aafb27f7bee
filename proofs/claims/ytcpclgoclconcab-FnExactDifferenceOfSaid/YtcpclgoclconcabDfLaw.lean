/- The walk of the law of DifferenceOf. -/
import Derived.Test.YtcpclgoclconcabDfImpl
import Derived.Test.YtcpclgoclconcabLgLaw
namespace Go.Proofs.Ytcpclgoclconcab.Df
open Go.RowKit Ft Fs Ld Lg Is

theorem own_mono {w : World} {B B' n : Nat} {A : Option Addr} {f : Nat → Int} (h : Own w B A n f) (hB : B' ≤ B) : Own w B' A n f := fun hn => by
  obtain ⟨b, off, rfl, hb, hlt, hc, hf⟩ := h hn
  exact ⟨b, off, rfl, by omega, hlt, hc, hf⟩
/-- A new slice of n numbers d, and a code. -/
def SliceAt (n : Nat) (d : Nat → Int) (c : Int) (w : World) (e : Ending) (w' : World) : Prop :=
  ∃ A cap, e = .returned (.tuple #[.slice A n cap, .int .i64 c]) ∧ Hid (Own w' w.heap.size A n d) ∧ Below w.heap.size w w'

set_option maxRecDepth 100000 in
set_option maxHeartbeats 8000000 in
/-- Where both functions answer alike, the law returns true. -/
theorem core (a b d : Nat → Int) (n : Nat) (hn : n ≤ 1048576) (c : Int) (w : World)
    (CS : Hid (∀ w, Calls Try.prog 28 #[.agg #[.int .i64 (a 0), .int .i64 (a 1), .int .i64 (a 2), .int .i64 (a 3)], .agg #[.int .i64 (b 0), .int .i64 (b 1), .int .i64 (b 2), .int .i64 (b 3)]] w (SliceAt n d c w)))
    (CI : Hid (∀ w, Calls Try.prog 29 #[.agg #[.int .i64 (a 0), .int .i64 (a 1), .int .i64 (a 2), .int .i64 (a 3)], .agg #[.int .i64 (b 0), .int .i64 (b 1), .int .i64 (b 2), .int .i64 (b 3)]] w (SliceAt n d c w))) :
    Calls Try.prog 7 #[.agg #[.int .i64 (a 0), .int .i64 (a 1), .int .i64 (a 2), .int .i64 (a 3)], .agg #[.int .i64 (b 0), .int .i64 (b 1), .int .i64 (b 2), .int .i64 (b 3)]] w fun e w' => e = .returned (.bool true) ∧ Below w.heap.size w w' := by
  have MK := Lib.hid (fun A cap B w h => mark_ints A n cap 1 d hn (by omega) (by omega) B w h)
  have HE := Lib.hid (fun A cap B w h => held_ints A n cap 1 hn (by omega) (by omega) B w h)
  have hM : 0 ≤ mk 1 n := by unfold mk; omega
  generalize mk 1 n = M at MK HE hM
  obtain ⟨ka, kb⟩ := Df.two w (.cells #[.int .i64 (a 0), .int .i64 (a 1), .int .i64 (a 2), .int .i64 (a 3)] 41) (.cells #[.int .i64 (b 0), .int .i64 (b 1), .int .i64 (b 2), .int .i64 (b 3)] 41)
  have HB0 := Lib.hid (below2 w (.cells #[.int .i64 (a 0), .int .i64 (a 1), .int .i64 (a 2), .int .i64 (a 3)] 41) (.cells #[.int .i64 (b 0), .int .i64 (b 1), .int .i64 (b 2), .int .i64 (b 3)] 41))
  have KA := Lib.hid ka
  have KB := Lib.hid kb
  clear ka kb
  go_enter Try.func7, Try.ntmps7
  go_upto_region 1 with fail
  generalize (w.alloc (.cells #[.int .i64 (a 0), .int .i64 (a 1), .int .i64 (a 2), .int .i64 (a 3)] 41)).alloc (.cells #[.int .i64 (b 0), .int .i64 (b 1), .int .i64 (b 2), .int .i64 (b 3)] 41) = W0 at KA KB HB0 ⊢
  have la := lt_of_heap KA.out
  have lb := lt_of_heap KB.out
  obtain ⟨x0, x1, x2, x3⟩ := blk4 KA.out
  obtain ⟨y0, y1, y2, y3⟩ := blk4 KB.out
  go_region_held3 (fun w' => w'.cell? ⟨w.heap.size, 0, none⟩ = some (.int .i64 (a 0)) ∧ w'.cell? ⟨w.heap.size, 1, none⟩ = some (.int .i64 (a 1)) ∧ w'.cell? ⟨w.heap.size, 2, none⟩ = some (.int .i64 (a 2)) ∧ w'.cell? ⟨w.heap.size, 3, none⟩ = some (.int .i64 (a 3)) ∧ w'.cell? ⟨w.heap.size + 1, 0, none⟩ = some (.int .i64 (b 0)) ∧ w'.cell? ⟨w.heap.size + 1, 1, none⟩ = some (.int .i64 (b 1)) ∧ w'.cell? ⟨w.heap.size + 1, 2, none⟩ = some (.int .i64 (b 2)) ∧ w'.cell? ⟨w.heap.size + 1, 3, none⟩ = some (.int .i64 (b 3)))
    (first | (refine ⟨?_, ?_, ?_, ?_, ?_, ?_, ?_, ?_⟩ <;> (refine keep_of (w2 := W0) ?_ (by omega) (by assumption); (repeat (first | exact Below.refl _ _ | exact B1 | refine Below.drew ?_ | refine Below.alloc ?_ (by first | omega | (simp <;> omega)) _)))))
    (first | (go_at_call 26; refine (to_exact _ _ _ _ _).mono ?_; rintro e wt ⟨rfl, rfl⟩) | (go_at_call 28; refine (CS.out _).mono ?_; rintro e w1 ⟨A1, cap1, rfl, P1, b1⟩; have B1 := below_then (w0 := W0) ?_ b1; rotate_left; (focus (repeat (first | exact Below.refl _ _ | refine Below.drew ?_ | refine Below.alloc ?_ (by first | omega | (simp <;> omega)) _))); have O1 := own_mono (B' := W0.heap.size) P1.out ?_; rotate_left; (focus (first | omega | (simp; done) | (simp; omega))); have q1 := B1.size))
  all_goals
    have XA1 : Hid (w1.cell? ⟨w.heap.size, 0, none⟩ = some (.int .i64 (a 0)) ∧ w1.cell? ⟨w.heap.size, 1, none⟩ = some (.int .i64 (a 1)) ∧ w1.cell? ⟨w.heap.size, 2, none⟩ = some (.int .i64 (a 2)) ∧ w1.cell? ⟨w.heap.size, 3, none⟩ = some (.int .i64 (a 3))) := Lib.hid ⟨keep_of B1 la x0, keep_of B1 la x1, keep_of B1 la x2, keep_of B1 la x3⟩
    have XB1 : Hid (w1.cell? ⟨w.heap.size + 1, 0, none⟩ = some (.int .i64 (b 0)) ∧ w1.cell? ⟨w.heap.size + 1, 1, none⟩ = some (.int .i64 (b 1)) ∧ w1.cell? ⟨w.heap.size + 1, 2, none⟩ = some (.int .i64 (b 2)) ∧ w1.cell? ⟨w.heap.size + 1, 3, none⟩ = some (.int .i64 (b 3))) := Lib.hid ⟨keep_of B1 lb y0, keep_of B1 lb y1, keep_of B1 lb y2, keep_of B1 lb y3⟩
    have HB1 := Lib.hid (below_then HB0.out B1)
    have HO1 := Lib.hid O1.nums
    have la1 : w.heap.size < w1.heap.size := by omega
    have lb1 : w.heap.size + 1 < w1.heap.size := by omega
    clear x0 x1 x2 x3 y0 y1 y2 y3 P1 b1 O1 B1 q1 la lb KA KB HB0 CS
    go_upto_region 2 with fail
    obtain ⟨x0, x1, x2, x3⟩ := XA1.out
    obtain ⟨y0, y1, y2, y3⟩ := XB1.out
    go_region_held3 (fun w' => w'.cell? ⟨w.heap.size, 0, none⟩ = some (.int .i64 (a 0)) ∧ w'.cell? ⟨w.heap.size, 1, none⟩ = some (.int .i64 (a 1)) ∧ w'.cell? ⟨w.heap.size, 2, none⟩ = some (.int .i64 (a 2)) ∧ w'.cell? ⟨w.heap.size, 3, none⟩ = some (.int .i64 (a 3)) ∧ w'.cell? ⟨w.heap.size + 1, 0, none⟩ = some (.int .i64 (b 0)) ∧ w'.cell? ⟨w.heap.size + 1, 1, none⟩ = some (.int .i64 (b 1)) ∧ w'.cell? ⟨w.heap.size + 1, 2, none⟩ = some (.int .i64 (b 2)) ∧ w'.cell? ⟨w.heap.size + 1, 3, none⟩ = some (.int .i64 (b 3)))
      (first | (refine ⟨?_, ?_, ?_, ?_, ?_, ?_, ?_, ?_⟩ <;> (refine keep_of (w2 := w1) ?_ (by omega) (by assumption); (repeat (first | exact Below.refl _ _ | exact B2 | refine Below.drew ?_ | refine Below.alloc ?_ (by first | omega | (simp <;> omega)) _)))))
      (first | (go_at_call 26; refine (to_exact _ _ _ _ _).mono ?_; rintro e wt ⟨rfl, rfl⟩) | (go_at_call 29; refine (CI.out _).mono ?_; rintro e w2 ⟨A2, cap2, rfl, P2, b2⟩; have B2 := below_then (w0 := w1) ?_ b2; rotate_left; (focus (repeat (first | exact Below.refl _ _ | refine Below.drew ?_ | refine Below.alloc ?_ (by first | omega | (simp <;> omega)) _))); have O2 := own_mono (B' := w1.heap.size) P2.out ?_; rotate_left; (focus (first | omega | (simp; done) | (simp; omega))); have q2 := B2.size))
    all_goals
      have HB2 := Lib.hid B2
      have HO2 := Lib.hid O2
      have HN1 := Lib.hid ((HO1.out.below B2 (Nat.le_refl _)).more q2)
      clear x0 x1 x2 x3 y0 y1 y2 y3 P2 b2 O2 B2
      go_wp2_with fail
      refine (eq_ints A2 A1 n cap2 cap1 d hn _ HO2.out.nums HN1.out).mono ?_
      rintro e w3 ⟨rfl, b3⟩
      have HB3 := Lib.hid (below_then HB2.out b3)
      have HO3 := Lib.hid (HO2.out.below b3)
      have q3 := b3.size
      clear b3 HN1
      go_wp2_with fail
      refine (MK.out A2 cap2 _ _ HO3.out).mono ?_
      rintro e w4 ⟨rfl, hm4, b4⟩
      have HB4 := Lib.hid (HB3.out.trans b4)
      have HO4 := Lib.hid hm4
      have q4 := HB4.out.size
      clear b4 hm4
      go_wp2_with fail
      refine (HE.out A2 cap2 _ _ HO4.out.nums).mono ?_
      rintro e wq ⟨rfl, rfl⟩
      have XA4 : Hid (w4.cell? ⟨w.heap.size, 0, none⟩ = some (.int .i64 (a 0)) ∧ w4.cell? ⟨w.heap.size, 1, none⟩ = some (.int .i64 (a 1)) ∧ w4.cell? ⟨w.heap.size, 2, none⟩ = some (.int .i64 (a 2)) ∧ w4.cell? ⟨w.heap.size, 3, none⟩ = some (.int .i64 (a 3))) := Lib.hid ⟨keep_of HB4.out la1 XA1.out.1, keep_of HB4.out la1 XA1.out.2.1, keep_of HB4.out la1 XA1.out.2.2.1, keep_of HB4.out la1 XA1.out.2.2.2⟩
      have XB4 : Hid (w4.cell? ⟨w.heap.size + 1, 0, none⟩ = some (.int .i64 (b 0)) ∧ w4.cell? ⟨w.heap.size + 1, 1, none⟩ = some (.int .i64 (b 1)) ∧ w4.cell? ⟨w.heap.size + 1, 2, none⟩ = some (.int .i64 (b 2)) ∧ w4.cell? ⟨w.heap.size + 1, 3, none⟩ = some (.int .i64 (b 3))) := Lib.hid ⟨keep_of HB4.out lb1 XB1.out.1, keep_of HB4.out lb1 XB1.out.2.1, keep_of HB4.out lb1 XB1.out.2.2.1, keep_of HB4.out lb1 XB1.out.2.2.2⟩
      have la4 : w.heap.size < w4.heap.size := by omega
      have lb4 : w.heap.size + 1 < w4.heap.size := by omega
      go_upto_region 13 with fail
      obtain ⟨x0, x1, x2, x3⟩ := XA4.out
      obtain ⟨y0, y1, y2, y3⟩ := XB4.out
      go_region_held3 (fun w' => w'.cell? ⟨w.heap.size, 0, none⟩ = some (.int .i64 (a 0)) ∧ w'.cell? ⟨w.heap.size, 1, none⟩ = some (.int .i64 (a 1)) ∧ w'.cell? ⟨w.heap.size, 2, none⟩ = some (.int .i64 (a 2)) ∧ w'.cell? ⟨w.heap.size, 3, none⟩ = some (.int .i64 (a 3)) ∧ w'.cell? ⟨w.heap.size + 1, 0, none⟩ = some (.int .i64 (b 0)) ∧ w'.cell? ⟨w.heap.size + 1, 1, none⟩ = some (.int .i64 (b 1)) ∧ w'.cell? ⟨w.heap.size + 1, 2, none⟩ = some (.int .i64 (b 2)) ∧ w'.cell? ⟨w.heap.size + 1, 3, none⟩ = some (.int .i64 (b 3)))
        (first | (refine ⟨?_, ?_, ?_, ?_, ?_, ?_, ?_, ?_⟩ <;> (refine keep_of (w2 := w4) ?_ (by omega) (by assumption); (repeat (first | exact Below.refl _ _ | exact B5 | refine Below.drew ?_ | refine Below.alloc ?_ (by first | omega | (simp <;> omega)) _)))))
        (first | (go_at_call 26; refine (to_exact _ _ _ _ _).mono ?_; rintro e wt ⟨rfl, rfl⟩) | (go_at_call 29; refine (CI.out _).mono ?_; rintro e w5 ⟨A5, cap5, rfl, P5, b5⟩; have B5 := below_then (w0 := w4) ?_ b5; rotate_left; (focus (repeat (first | exact Below.refl _ _ | refine Below.drew ?_ | refine Below.alloc ?_ (by first | omega | (simp <;> omega)) _))); have O5 := own_mono (B' := w4.heap.size) P5.out ?_; rotate_left; (focus (first | omega | (simp; done) | (simp; omega))); have q5 := B5.size))
      all_goals
        have HB5 := Lib.hid (HB4.out.trans (B5.mono q4))
        have HO5 := Lib.hid O5.nums
        have HN5 := Lib.hid ((HO1.out.below HB5.out (Nat.le_refl _)).more HB5.out.size)
        have HM5 := Lib.hid (HO4.out.below B5)
        clear x0 x1 x2 x3 y0 y1 y2 y3 P5 b5 O5 B5
        go_wp2_with fail
        refine (eq_ints A5 A1 n cap5 cap1 d hn _ HO5.out HN5.out).mono ?_
        rintro e w6 ⟨rfl, b6⟩
        have HB6 := Lib.hid (HB5.out.trans (b6.mono HB5.out.size))
        have HM6 := Lib.hid (HM5.out.below b6)
        clear b6
        go_wp2_with fail
        refine (HE.out A2 cap2 _ _ HM6.out.nums).mono ?_
        rintro e wq ⟨rfl, rfl⟩
        have HF := Lib.hid (below_then HB1.out HB6.out)
        go_wp2_with fail
        go_ret
        exact ⟨rfl, HF.out⟩
theorem slice_yes {d : Nat → Int} {w w' : World} {e : Ending} (h : DiffAt d w e w') : SliceAt 4 d 0 w e w' := by
  obtain ⟨g, cap, rfl, ho, hb⟩ := h
  exact ⟨_, cap, rfl, ho, hb⟩
theorem slice_no {w w' : World} {e : Ending} (h : e = .returned (.tuple #[.slice none 0 0, .int .i64 1]) ∧ Below w.heap.size w w') : SliceAt 0 (fun _ => 0) 1 w e w' :=
  ⟨none, 0, h.1, Lib.hid fun h => absurd h (by omega), h.2⟩
/-- The law. -/
theorem law (a0 a1 a2 a3 b0 b1 b2 b3 : Int) (w : World) (_ : (Lit.int .i64 a0).wf = true) (_ : (Lit.int .i64 a1).wf = true) (_ : (Lit.int .i64 a2).wf = true) (_ : (Lit.int .i64 a3).wf = true) (_ : (Lit.int .i64 b0).wf = true) (_ : (Lit.int .i64 b1).wf = true) (_ : (Lit.int .i64 b2).wf = true) (_ : (Lit.int .i64 b3).wf = true) :
    Calls Try.prog 7 #[.agg #[.int .i64 a0, .int .i64 a1, .int .i64 a2, .int .i64 a3], .agg #[.int .i64 b0, .int .i64 b1, .int .i64 b2, .int .i64 b3]] w fun e w' => e = .returned (.bool true) ∧ Below w.heap.size w w' := by
  cases ha : ftB a0 a1 a2 a3
  · exact core (nth a0 a1 a2 a3) (nth b0 b1 b2 b3) (fun _ => 0) 0 (by omega) 1 w (Lib.hid fun w => (spec_diff_no _ _ (.inl ha) w).mono fun _ _ h => slice_no h) (Lib.hid fun w => (impl_diff_no _ _ (.inl ha) w).mono fun _ _ h => slice_no h)
  · cases hb : ftB b0 b1 b2 b3
    · exact core (nth a0 a1 a2 a3) (nth b0 b1 b2 b3) (fun _ => 0) 0 (by omega) 1 w (Lib.hid fun w => (spec_diff_no _ _ (.inr hb) w).mono fun _ _ h => slice_no h) (Lib.hid fun w => (impl_diff_no _ _ (.inr hb) w).mono fun _ _ h => slice_no h)
    · exact core (nth a0 a1 a2 a3) (nth b0 b1 b2 b3) (fun j => nth b0 b1 b2 b3 j - nth a0 a1 a2 a3 j) 4 (by omega) 0 w (Lib.hid fun w => (spec_diff_yes _ _ ha hb w).mono fun _ _ h => slice_yes h) (Lib.hid fun w => (impl_diff_yes _ _ ha hb w).mono fun _ _ h => slice_yes h)
end Go.Proofs.Ytcpclgoclconcab.Df
