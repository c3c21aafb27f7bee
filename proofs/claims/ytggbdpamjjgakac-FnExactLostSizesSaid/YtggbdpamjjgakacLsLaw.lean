/- The walk of the law FnExactLostSizes. -/
import Derived.Test.YtggbdpamjjgakacLnLib
import Derived.Deep.DeepCutAuto
namespace Go.Proofs.Ytggbdpamjjgakac.Ls1
open Go.RowKit Ba Sc Sr Cv Is Ls
set_option linter.unusedVariables false

theorem own_mono {w : World} {B B' n : Nat} {A : Option Addr} {f : Nat → Int} (h : Own w B A n f) (hB : B' ≤ B) : Own w B' A n f := fun hn => by
  obtain ⟨b, off, rfl, hb, hlt, hc, hf⟩ := h hn
  exact ⟨b, off, rfl, by omega, hlt, hc, hf⟩
theorem keep_b {w w' : World} {B g : Nat} {o : Obj} (hb : Below B w w') (hg : g < B) (h : w.heap[g]? = some o) : w'.heap[g]? = some o := (hb.block g hg).trans h
set_option maxHeartbeats 8000000 in
set_option maxRecDepth 100000 in
/-- Where both functions answer alike, the law returns true. -/
theorem core (s : ByteArray) (b n d : Int) (s' : ByteArray) (b' n' d' : Int) (f : Int) (t : Int) (dd : Nat → Int) (m : Nat) (hm : m ≤ 1048576) (cc : Int) (w : World) (hs : s.size ≤ maxLen) (hs' : s'.size ≤ maxLen)
    (CS : Hid (∀ w, Calls Try.prog 6 #[.agg #[.string s, .int .i64 b, .int .i64 n, .int .i64 d], .agg #[.string s', .int .i64 b', .int .i64 n', .int .i64 d'], .int .i64 f, .int .i64 t] w (SliceAt m dd cc w)))
    (CI : Hid (∀ w, Calls Try.prog 8 #[.agg #[.string s, .int .i64 b, .int .i64 n, .int .i64 d], .agg #[.string s', .int .i64 b', .int .i64 n', .int .i64 d'], .int .i64 f, .int .i64 t] w (SliceAt m dd cc w)))
    : Calls Try.prog 3 #[.agg #[.string s, .int .i64 b, .int .i64 n, .int .i64 d], .agg #[.string s', .int .i64 b', .int .i64 n', .int .i64 d'], .int .i64 f, .int .i64 t] w fun e w' => e = .returned (.bool true) ∧ Below w.heap.size w w' := by
  have MK := Lib.hid (fun A cap B w h => mark_ints A m cap 1 dd hm (by omega) (by omega) B w h)
  have HE := Lib.hid (fun A cap B w h => held_ints A m cap 1 hm (by omega) (by omega) B w h)
  have hM : 0 ≤ mk 1 m := by unfold mk; omega
  generalize mk 1 m = M at MK HE hM
  have h1 := hs
  have h2 := hs'
  unfold maxLen at h1 h2
  by_cases hbig : 1048576 < s.size
  · have Z := Lib.hid fun w => size_no s b n d 1048576 (by omega) (by omega) (by omega) (by omega) w
    clear hs hs' h1 h2 hbig CS CI MK HE hM
    go_enter Try.func3, Try.ntmps3
    go_wp2_with fail
    refine (Z.out _).mono ?_
    rintro e w1 ⟨rfl, b1⟩
    obtain ⟨hb1, k1, r1⟩ := boxes2 b1
    have HB1 := Lib.hid hb1
    have KA1 := Lib.hid k1
    have KB1 := Lib.hid r1
    clear b1 hb1 k1 r1
    go_wp2_with fail
    go_ret
    exact ⟨rfl, HB1.out⟩
  have Z := Lib.hid fun w => size_yes s b n d 1048576 (by omega) (by omega) w
  have hle : (0 : Int) ≤ 1048576 - (s.size : Int) := by omega
  by_cases hbig' : 1048576 - (s.size : Int) < s'.size
  · have Z' := Lib.hid fun w => size_no s' b' n' d' (1048576 - (s.size : Int)) (by omega) (by omega) (by omega) (by omega) w
    clear hs hs' h1 h2 hbig hbig' CS CI MK HE hM
    go_enter Try.func3, Try.ntmps3
    go_wp2_with fail
    refine (Z.out _).mono ?_
    rintro e w1 ⟨rfl, b1⟩
    obtain ⟨hb1, k1, r1⟩ := boxes2 b1
    have HB1 := Lib.hid hb1
    have KA1 := Lib.hid k1
    have KB1 := Lib.hid r1
    clear b1 hb1 k1 r1
    obtain ⟨y0, y1, y2, y3⟩ := blk4 KB1.out
    go_wp2_with fail
    refine (Z'.out _).mono ?_
    rintro e w2 ⟨rfl, b2⟩
    have HB2 := Lib.hid (below_then HB1.out b2)
    clear b2 y0 y1 y2 y3
    go_wp2_with fail
    go_ret
    exact ⟨rfl, HB2.out⟩
  have Z' := Lib.hid fun w => size_yes s' b' n' d' (1048576 - (s.size : Int)) (by omega) (by omega) w
  have hle' : (0 : Int) ≤ 1048576 - (s.size : Int) - (s'.size : Int) := by omega
  clear hs hs' h1 h2 hbig hbig'
  go_enter Try.func3, Try.ntmps3
  go_wp2_with fail
  refine (Z.out _).mono ?_
  rintro e w1 ⟨rfl, b1⟩
  obtain ⟨hb1, k1, r1⟩ := boxes2 b1
  have HB1 := Lib.hid hb1
  have KA1 := Lib.hid k1
  have KB1 := Lib.hid r1
  clear b1 hb1 k1 r1
  obtain ⟨y0, y1, y2, y3⟩ := blk4 KB1.out
  go_wp2_with fail
  refine (Z'.out _).mono ?_
  rintro e w2 ⟨rfl, b2⟩
  have HB2 := Lib.hid (below_then HB1.out b2)
  have KA2 := Lib.hid (blk_keep b2 KA1.out)
  have KB2 := Lib.hid (blk_keep b2 KB1.out)
  clear b2 y0 y1 y2 y3 HB1 KA1 KB1
  have la := lt_of_heap KA2.out
  have lb := lt_of_heap KB2.out
  obtain ⟨x0, x1, x2, x3⟩ := blk4 KA2.out
  obtain ⟨y0, y1, y2, y3⟩ := blk4 KB2.out
  go_wp2_with fail
  go_region_held3 (fun w' => w'.cell? ⟨w.heap.size, 0, none⟩ = some (.string s) ∧ w'.cell? ⟨w.heap.size, 1, none⟩ = some (.int .i64 b) ∧ w'.cell? ⟨w.heap.size, 2, none⟩ = some (.int .i64 n) ∧ w'.cell? ⟨w.heap.size, 3, none⟩ = some (.int .i64 d) ∧ w'.cell? ⟨w.heap.size + 1, 0, none⟩ = some (.string s') ∧ w'.cell? ⟨w.heap.size + 1, 1, none⟩ = some (.int .i64 b') ∧ w'.cell? ⟨w.heap.size + 1, 2, none⟩ = some (.int .i64 n') ∧ w'.cell? ⟨w.heap.size + 1, 3, none⟩ = some (.int .i64 d'))
    (first | (refine ⟨?_, ?_, ?_, ?_, ?_, ?_, ?_, ?_⟩ <;> (refine keep_of (w2 := w2) ?_ (by omega) (by assumption); (repeat (first | (with_reducible exact Below.refl _ _) | (with_reducible exact B1) | (with_reducible refine Below.drew ?_))))))
    (first | (go_at_call 6; (with_reducible refine (CS.out _).mono ?_); rintro e v1 ⟨A1, cap1, rfl, P1, b1⟩; have B1 := below_then (w0 := w2) ?_ b1; rotate_left; (focus (repeat (first | (with_reducible exact Below.refl _ _) | (with_reducible exact B1) | (with_reducible refine Below.drew ?_)))); have q1 := B1.size; have O1 := own_mono (B' := w2.heap.size) P1.out ?_; rotate_left; (focus (first | omega | (simp; done) | (simp; omega))); clear b1) | (go_at_call 7; (with_reducible refine (to_any _ _ _ _ _).mono ?_); rintro e v1 ⟨rfl, b1⟩; have B1 := below_then (w0 := w2) ?_ b1; rotate_left; (focus (repeat (first | (with_reducible exact Below.refl _ _) | (with_reducible exact B1) | (with_reducible refine Below.drew ?_)))); have q1 := B1.size; clear b1))
  have HB3 := Lib.hid (below_then HB2.out B1)
  have KA3 := Lib.hid (blk_keep B1 KA2.out)
  have KB3 := Lib.hid (blk_keep B1 KB2.out)
  have HO1 := Lib.hid O1.nums
  clear x0 x1 x2 x3 y0 y1 y2 y3 la lb q1 B1 HB2 KA2 KB2 P1 O1
  obtain ⟨w3, hw3⟩ : ∃ u : World, u = v1 := ⟨_, rfl⟩
  subst hw3
  have lz := lt_of_heap KB3.out
  have la := lt_of_heap KA3.out
  have lb := lt_of_heap KB3.out
  obtain ⟨x0, x1, x2, x3⟩ := blk4 KA3.out
  obtain ⟨y0, y1, y2, y3⟩ := blk4 KB3.out
  go_wp2_with fail
  go_region_held3 (fun w' => w'.cell? ⟨w.heap.size, 0, none⟩ = some (.string s) ∧ w'.cell? ⟨w.heap.size, 1, none⟩ = some (.int .i64 b) ∧ w'.cell? ⟨w.heap.size, 2, none⟩ = some (.int .i64 n) ∧ w'.cell? ⟨w.heap.size, 3, none⟩ = some (.int .i64 d) ∧ w'.cell? ⟨w.heap.size + 1, 0, none⟩ = some (.string s') ∧ w'.cell? ⟨w.heap.size + 1, 1, none⟩ = some (.int .i64 b') ∧ w'.cell? ⟨w.heap.size + 1, 2, none⟩ = some (.int .i64 n') ∧ w'.cell? ⟨w.heap.size + 1, 3, none⟩ = some (.int .i64 d'))
    (first | (refine ⟨?_, ?_, ?_, ?_, ?_, ?_, ?_, ?_⟩ <;> (refine keep_of (w2 := w3) ?_ (by omega) (by assumption); (repeat (first | (with_reducible exact Below.refl _ _) | (with_reducible exact B1) | (with_reducible refine Below.drew ?_))))))
    (first | (go_at_call 8; (with_reducible refine (CI.out _).mono ?_); rintro e v1 ⟨A2, cap2, rfl, P2, b1⟩; have B1 := below_then (w0 := w3) ?_ b1; rotate_left; (focus (repeat (first | (with_reducible exact Below.refl _ _) | (with_reducible exact B1) | (with_reducible refine Below.drew ?_)))); have q1 := B1.size; have O2 := own_mono (B' := w3.heap.size) P2.out ?_; rotate_left; (focus (first | omega | (simp; done) | (simp; omega))); clear b1) | (go_at_call 7; (with_reducible refine (to_any _ _ _ _ _).mono ?_); rintro e v1 ⟨rfl, b1⟩; have B1 := below_then (w0 := w3) ?_ b1; rotate_left; (focus (repeat (first | (with_reducible exact Below.refl _ _) | (with_reducible exact B1) | (with_reducible refine Below.drew ?_)))); have q1 := B1.size; clear b1))
  have HB4 := Lib.hid (below_then HB3.out B1)
  have KA4 := Lib.hid (blk_keep B1 KA3.out)
  have KB4 := Lib.hid (blk_keep B1 KB3.out)
  have HO2 := Lib.hid O2
  have HN1 := Lib.hid ((HO1.out.below B1 (Nat.le_refl _)).more q1)
  have HBa := Lib.hid B1
  clear x0 x1 x2 x3 y0 y1 y2 y3 la lb q1 B1 HB3 KA3 KB3 P2 O2
  obtain ⟨w4, hw4⟩ : ∃ u : World, u = v1 := ⟨_, rfl⟩
  subst hw4
  go_wp2_with fail
  refine (eq_ints A2 A1 m cap2 cap1 dd hm _ HO2.out.nums HN1.out).mono ?_
  rintro e w5 ⟨rfl, b5⟩
  have HB5 := Lib.hid (below_then HB4.out b5)
  have HBb := Lib.hid (below_then HBa.out b5)
  have HO5 := Lib.hid (HO2.out.below b5)
  have KA5 := Lib.hid (blk_keep b5 KA4.out)
  have KB5 := Lib.hid (blk_keep b5 KB4.out)
  have HN5 := Lib.hid ((HN1.out.below b5 (Nat.le_refl _)).more b5.size)
  clear b5 HN1 HB4 HBa KA4 KB4 HO2
  go_wp2_with fail
  refine (MK.out A2 cap2 _ _ HO5.out).mono ?_
  rintro e w6 ⟨rfl, hm4, b6⟩
  have HB36 := Lib.hid (HBb.out.trans b6)
  have HB6 := Lib.hid (HB5.out.trans (b6.mono (by omega)))
  have HO6 := Lib.hid hm4
  have KA6 := Lib.hid (keep_b b6 (by omega) KA5.out)
  have KB6 := Lib.hid (keep_b b6 (by omega) KB5.out)
  clear b6 hm4 KA5 KB5 HB5 HBb HO5 HN5
  go_wp2_with fail
  refine (HE.out A2 cap2 _ _ HO6.out.nums).mono ?_
  rintro e wq ⟨rfl, rfl⟩
  have la := lt_of_heap KA6.out
  have lb := lt_of_heap KB6.out
  obtain ⟨x0, x1, x2, x3⟩ := blk4 KA6.out
  obtain ⟨y0, y1, y2, y3⟩ := blk4 KB6.out
  go_wp2_with fail
  go_region_held3 (fun w' => w'.cell? ⟨w.heap.size, 0, none⟩ = some (.string s) ∧ w'.cell? ⟨w.heap.size, 1, none⟩ = some (.int .i64 b) ∧ w'.cell? ⟨w.heap.size, 2, none⟩ = some (.int .i64 n) ∧ w'.cell? ⟨w.heap.size, 3, none⟩ = some (.int .i64 d) ∧ w'.cell? ⟨w.heap.size + 1, 0, none⟩ = some (.string s') ∧ w'.cell? ⟨w.heap.size + 1, 1, none⟩ = some (.int .i64 b') ∧ w'.cell? ⟨w.heap.size + 1, 2, none⟩ = some (.int .i64 n') ∧ w'.cell? ⟨w.heap.size + 1, 3, none⟩ = some (.int .i64 d'))
    (first | (refine ⟨?_, ?_, ?_, ?_, ?_, ?_, ?_, ?_⟩ <;> (refine keep_of (w2 := w6) ?_ (by omega) (by assumption); (repeat (first | (with_reducible exact Below.refl _ _) | (with_reducible exact B1) | (with_reducible refine Below.drew ?_))))))
    (first | (go_at_call 8; (with_reducible refine (CI.out _).mono ?_); rintro e v1 ⟨A3, cap3, rfl, P3, b1⟩; have B1 := below_then (w0 := w6) ?_ b1; rotate_left; (focus (repeat (first | (with_reducible exact Below.refl _ _) | (with_reducible exact B1) | (with_reducible refine Below.drew ?_)))); have q1 := B1.size; have O3 := own_mono (B' := w6.heap.size) P3.out ?_; rotate_left; (focus (first | omega | (simp; done) | (simp; omega))); clear b1) | (go_at_call 7; (with_reducible refine (to_any _ _ _ _ _).mono ?_); rintro e v1 ⟨rfl, b1⟩; have B1 := below_then (w0 := w6) ?_ b1; rotate_left; (focus (repeat (first | (with_reducible exact Below.refl _ _) | (with_reducible exact B1) | (with_reducible refine Below.drew ?_)))); have q1 := B1.size; clear b1))
  have HB37 := Lib.hid (HB36.out.trans (B1.mono HB36.out.size))
  have HB7 := Lib.hid (below_then HB6.out B1)
  have HO3 := Lib.hid O3.nums
  have HM7 := Lib.hid (HO6.out.below B1)
  have HN7 := Lib.hid ((HO1.out.below HB37.out (Nat.le_refl _)).more HB37.out.size)
  clear x0 x1 x2 x3 y0 y1 y2 y3 la lb q1 B1 KA6 KB6 P3 O3 HB36 HB6 HO6
  obtain ⟨w7, hw7⟩ : ∃ u : World, u = v1 := ⟨_, rfl⟩
  subst hw7
  go_wp2_with fail
  refine (eq_ints A3 A1 m cap3 cap1 dd hm _ HO3.out HN7.out).mono ?_
  rintro e w8 ⟨rfl, b8⟩
  have HB8 := Lib.hid (below_then HB7.out b8)
  have HM8 := Lib.hid (HM7.out.below b8)
  clear b8
  go_wp2_with fail
  refine (HE.out A2 cap2 _ _ HM8.out.nums).mono ?_
  rintro e wq ⟨rfl, rfl⟩
  go_wp2_with fail
  go_ret
  exact ⟨rfl, HB8.out⟩
end Go.Proofs.Ytggbdpamjjgakac.Ls1
