/- Both functions GradeBetween. -/
import Derived.Test.YtaoknbhpjnileabGlLib
import Derived.Test.YtaoknbhpjnileabJpLib
namespace Go.Proofs.Ytaoknbhpjnileab.Hb
open Go.RowKit Go.Shelf Ft Ge Qb La Ga Fg Jo Gl

/-- By how much each measure grows with each half size. -/
def gb (a b : Nat → Int) (st : Int) (k : Nat) : Int := fl (2 * (100 * (b k - a k)) + st) (2 * st)
theorem round_any (x y st : Int) (hx : -1000000 ≤ x) (hx' : x ≤ 1000000) (hy : -1000000 ≤ y) (hy' : y ≤ 1000000) (h1 : 1 ≤ st) (h2 : st ≤ 30) (w : World) :
    Calls Try.prog 76 #[.int .i64 (100 * (y - x)), .int .i64 st] w fun e w' => e = .returned (.int .i64 (fl (2 * (100 * (y - x)) + st) (2 * st))) ∧ w = w' :=
  near_spec (100 * (y - x)) st (by omega) (by omega) (by omega) (by omega) w
theorem clo_any (x y st : Int) (gs : Nat) (hx : -1000000 ≤ x) (hx' : x ≤ 1000000) (hy : -1000000 ≤ y) (hy' : y ≤ 1000000) (h1 : 1 ≤ st) (h2 : st ≤ 30) (w : World) (hc : w.cell? ⟨gs, 0, none⟩ = some (.int .i64 st)) :
    Calls Try.prog 79 #[.int .i64 x, .int .i64 y, .pointer (some ⟨gs, 0, none⟩)] w fun e w' => e = .returned (.int .i64 (fl (2 * (100 * (y - x)) + st) (2 * st))) ∧ w = w' := by
  have C := Lib.hid (fun w => near_impl (100 * (y - x)) st (by omega) (by omega) (by omega) (by omega) w)
  generalize fl (2 * (100 * (y - x)) + st) (2 * st) = v at C ⊢
  go_enter Try.func79, Try.ntmps79
  go_wp2_with fail
  refine (C.out _).mono ?_
  rintro e w' ⟨rfl, rfl⟩
  go_wp2_with fail
  go_ret
  exact ⟨rfl, rfl⟩
theorem grade_any (m : Nat → Int) (w : World) : Calls Try.prog 81 #[fvV m] w fun e w' => e = .returned (fvV m) ∧ Below w.heap.size w w' := by
  unfold fvV
  generalize m 0 = f0, m 1 = f1, m 2 = f2, m 3 = f3, m 4 = f4
  go_enter Try.func81, Try.ntmps81
  go_wp2
  exact bodyPost_ret (v := .agg #[.int .i64 f0, .int .i64 f1, .int .i64 f2, .int .i64 f3, .int .i64 f4]) (by simp [results, Try.results81, go_sem]) rfl ⟨rfl, by repeat (first | exact Below.refl _ _ | exact below_box _ _ | refine Below.setCell ?_ (by simp <;> omega) _ | refine Below.drew ?_ | refine Below.alloc ?_ (by simp <;> omega) _)⟩
/-- What GradeBetween answers. -/
noncomputable def gbC (s s' : ByteArray) (a b : Nat → Int) (st : Int) : Int := if (laB s a && laB s' b) = true then (if inB st 1 30 = true then (if grB (gb a b st) = true then 0 else 6) else 2) else 1
noncomputable def gbM (s s' : ByteArray) (a b : Nat → Int) (st : Int) : Nat → Int := if gbC s s' a b st = 0 then gb a b st else fun _ => 0
/-- A grade and a code. -/
def GbAt (s s' : ByteArray) (a b : Nat → Int) (st : Int) (w : World) (e : Ending) (w' : World) : Prop := e = .returned (.tuple #[fvV (gbM s s' a b st), .int .i64 (gbC s s' a b st)]) ∧ Below w.heap.size w w'
theorem gb_not {s s' : ByteArray} {a b : Nat → Int} {st c : Int} (hc : gbC s s' a b st = c) (h0 : c ≠ 0) {w w' : World} (hb : Below w.heap.size w w') : GbAt s s' a b st w (.returned (.tuple #[.agg #[.int .i64 0, .int .i64 0, .int .i64 0, .int .i64 0, .int .i64 0], .int .i64 c])) w' := by
  have hn : ¬ gbC s s' a b st = 0 := by rw [hc]; exact h0
  exact ⟨by unfold gbM; rw [if_neg hn, hc], hb⟩
theorem gb_yes {s s' : ByteArray} {a b : Nat → Int} {st : Int} (hc : gbC s s' a b st = 0) {w w' : World} (hb : Below w.heap.size w w') : GbAt s s' a b st w (.returned (.tuple #[fvV (gb a b st), .int .i64 0])) w' :=
  ⟨by unfold gbM; rw [if_pos hc, hc], hb⟩
set_option maxRecDepth 100000 in
set_option maxHeartbeats 4000000 in
theorem spec_gb (s s' : ByteArray) (a b : Nat → Int) (st : Int) (hs : s.size ≤ maxLen) (hs' : s'.size ≤ maxLen) (w : World) : Calls Try.prog 37 #[laV s a, laV s' b, .int .i64 st] w (GbAt s s' a b st w) := by
  have C1 := Lib.hid (fun w => one_spec s a hs w)
  have C2 := Lib.hid (fun w => one_spec s' b hs' w)
  have C3 := Lib.hid (fun w => in_any st 1 30 w)
  have C4 := Lib.hid (fun w => ok_any (gb a b st) w)
  have CA : ∀ k, k < 5 → Hid ((laB s a && laB s' b) = true → inB st 1 30 = true → ∀ w, Calls Try.prog 76 #[.int .i64 (100 * (b k - a k)), .int .i64 st] w fun e w' => e = .returned (.int .i64 (gb a b st k)) ∧ w = w') := fun k hk => Lib.hid fun h1 h3 w => by
    have h1' : laB s a = true ∧ laB s' b = true := by simpa using h1
    have h3' : 1 ≤ st ∧ st ≤ 30 := by simpa [inB] using h3
    obtain ⟨l1, l2⟩ := la_at h1'.1 hk
    obtain ⟨g1, g2⟩ := la_at h1'.2 hk
    exact round_any (a k) (b k) st l1 l2 g1 g2 h3'.1 h3'.2 w
  have D0 := CA 0 (by omega)
  have D1 := CA 1 (by omega)
  have D2 := CA 2 (by omega)
  have D3 := CA 3 (by omega)
  have D4 := CA 4 (by omega)
  have LA : Hid ((laB s a && laB s' b) = true → ∀ k, k < 5 → -1000000 ≤ a k ∧ a k ≤ 1000000 ∧ -1000000 ≤ b k ∧ b k ≤ 1000000) := Lib.hid fun h1 k hk => by
    have h1' : laB s a = true ∧ laB s' b = true := by simpa using h1
    obtain ⟨l1, l2⟩ := la_at h1'.1 hk
    obtain ⟨g1, g2⟩ := la_at h1'.2 hk
    exact ⟨l1, l2, g1, g2⟩
  have LB : Hid ((laB s a && laB s' b) = true → (-1000000 ≤ a 0 ∧ a 0 ≤ 1000000 ∧ -1000000 ≤ b 0 ∧ b 0 ≤ 1000000) ∧ (-1000000 ≤ a 1 ∧ a 1 ≤ 1000000 ∧ -1000000 ≤ b 1 ∧ b 1 ≤ 1000000) ∧ (-1000000 ≤ a 2 ∧ a 2 ≤ 1000000 ∧ -1000000 ≤ b 2 ∧ b 2 ≤ 1000000) ∧ (-1000000 ≤ a 3 ∧ a 3 ≤ 1000000 ∧ -1000000 ≤ b 3 ∧ b 3 ≤ 1000000) ∧ (-1000000 ≤ a 4 ∧ a 4 ≤ 1000000 ∧ -1000000 ≤ b 4 ∧ b 4 ≤ 1000000)) := Lib.hid fun h => ⟨LA.out h 0 (by omega), LA.out h 1 (by omega), LA.out h 2 (by omega), LA.out h 3 (by omega), LA.out h 4 (by omega)⟩
  clear CA LA
  have P1 : Hid ((laB s a && laB s' b) = false → ∀ w', Below w.heap.size w w' → GbAt s s' a b st w (.returned (.tuple #[.agg #[.int .i64 0, .int .i64 0, .int .i64 0, .int .i64 0, .int .i64 0], .int .i64 1])) w') := Lib.hid fun h w' hb => gb_not (by simp [gbC, h]) (by omega) hb
  have P2 : Hid ((laB s a && laB s' b) = true → inB st 1 30 = false → ∀ w', Below w.heap.size w w' → GbAt s s' a b st w (.returned (.tuple #[.agg #[.int .i64 0, .int .i64 0, .int .i64 0, .int .i64 0, .int .i64 0], .int .i64 2])) w') := Lib.hid fun h h' w' hb => gb_not (by simp [gbC, h, h']) (by omega) hb
  have P3 : Hid ((laB s a && laB s' b) = true → inB st 1 30 = true → grB (gb a b st) = false → ∀ w', Below w.heap.size w w' → GbAt s s' a b st w (.returned (.tuple #[.agg #[.int .i64 0, .int .i64 0, .int .i64 0, .int .i64 0, .int .i64 0], .int .i64 6])) w') := Lib.hid fun h h' h'' w' hb => gb_not (by simp [gbC, h, h', h'']) (by omega) hb
  have P4 : Hid ((laB s a && laB s' b) = true → inB st 1 30 = true → grB (gb a b st) = true → ∀ w', Below w.heap.size w w' → GbAt s s' a b st w (.returned (.tuple #[fvV (gb a b st), .int .i64 0])) w') := Lib.hid fun h h' h'' w' hb => gb_yes (by simp [gbC, h, h', h'']) hb
  obtain ⟨ka, kb, kz⟩ := three w (laC s a 33) (laC s' b 33) (.cells #[.int .i64 0, .int .i64 0, .int .i64 0, .int .i64 0, .int .i64 0] 59)
  have B0 := Lib.hid (below3 w (laC s a 33) (laC s' b 33) (.cells #[.int .i64 0, .int .i64 0, .int .i64 0, .int .i64 0, .int .i64 0] 59))
  generalize GbAt s s' a b st w = Q at P1 P2 P3 P4 ⊢
  generalize laB s a = r1 at C1 LB D0 D1 D2 D3 D4 P1 P2 P3 P4
  generalize laB s' b = r2 at C2 LB D0 D1 D2 D3 D4 P1 P2 P3 P4
  generalize inB st 1 30 = r3 at C3 D0 D1 D2 D3 D4 P2 P3 P4
  generalize grB (gb a b st) = r4 at C4 P3 P4
  simp only [laV, fvV, laC] at kb kz B0 C1 C2 C4 P4 ka ⊢
  generalize hy : gb a b st = y at *
  clear hy
  generalize hx0 : a 0 = a0, a 1 = a1, a 2 = a2, a 3 = a3, a 4 = a4, b 0 = b0, b 1 = b1, b 2 = b2, b 3 = b3, b 4 = b4, y 0 = y0, y 1 = y1, y 2 = y2, y 3 = y3, y 4 = y4 at *
  clear hx0
  have KA := Lib.hid ka
  have KB := Lib.hid kb
  have KZ := Lib.hid kz
  clear ka kb kz
  have R : (r1 = false) ∨ (r1 = true ∧ r2 = false) ∨ (r1 = true ∧ r2 = true ∧ r3 = false) ∨ (r1 = true ∧ r2 = true ∧ r3 = true ∧ r4 = false) ∨ (r1 = true ∧ r2 = true ∧ r3 = true ∧ r4 = true) := by cases r1 <;> cases r2 <;> cases r3 <;> cases r4 <;> simp
  go_enter Try.func37, Try.ntmps37
  go_upto_region 1 with fail
  generalize hw2 : ((w.alloc _).alloc _).alloc _ = w2 at KA KB KZ B0 ⊢
  clear hw2
  obtain ⟨v0, v1, v2, v3, v4, v5⟩ := blk6 KA.out
  go_wp2_with fail
  refine (C1.out _).mono ?_
  rintro e w3 ⟨rfl, b3⟩
  have B3 := Lib.hid (below_then B0.out b3)
  have KA3 := Lib.hid (blk_keep b3 KA.out)
  have KB3 := Lib.hid (blk_keep b3 KB.out)
  have KZ3 := Lib.hid (blk_keep b3 KZ.out)
  clear b3 v0 v1 v2 v3 v4 v5 KA KB KZ B0
  obtain ⟨z0, z1, z2, z3, z4⟩ := blk5 KZ3.out
  have fz := blk_free KZ3.out
  have hlz := lt_of_heap KZ3.out
  rcases R with rfl | ⟨rfl, rfl⟩ | ⟨rfl, rfl, rfl⟩ | ⟨rfl, rfl, rfl, rfl⟩ | ⟨rfl, rfl, rfl, rfl⟩
  · go_wp2_with fail
    exact bodyPost_ret (v := .tuple #[.agg #[.int .i64 0, .int .i64 0, .int .i64 0, .int .i64 0, .int .i64 0], .int .i64 1]) (by simp [results, Try.results37, go_sem, z0, z1, z2, z3, z4]) rfl
      (P1.out (by simp) _ (by repeat (first | (with_reducible exact B3.out) | (with_reducible refine Below.drew ?_) | (with_reducible refine Below.drewN ?_ _) | (with_reducible refine Below.setCell ?_ (by simp <;> omega) _))))
  all_goals
    obtain ⟨v0, v1, v2, v3, v4, v5⟩ := blk6 KB3.out
    go_wp2_with fail
    refine (C2.out _).mono ?_
    rintro e w4 ⟨rfl, b4⟩
    have B4 := Lib.hid (below_then B3.out b4)
    have KA4 := Lib.hid (blk_keep b4 KA3.out)
    have KB4 := Lib.hid (blk_keep b4 KB3.out)
    have KZ4 := Lib.hid (blk_keep b4 KZ3.out)
    clear b4 v0 v1 v2 v3 v4 v5 z0 z1 z2 z3 z4 fz hlz KA3 KB3 KZ3 B3
    obtain ⟨z0, z1, z2, z3, z4⟩ := blk5 KZ4.out
    have fz := blk_free KZ4.out
    have hlz := lt_of_heap KZ4.out
  · go_wp2_with fail
    exact bodyPost_ret (v := .tuple #[.agg #[.int .i64 0, .int .i64 0, .int .i64 0, .int .i64 0, .int .i64 0], .int .i64 1]) (by simp [results, Try.results37, go_sem, z0, z1, z2, z3, z4]) rfl
      (P1.out (by simp) _ (by repeat (first | (with_reducible exact B4.out) | (with_reducible refine Below.drew ?_) | (with_reducible refine Below.drewN ?_ _) | (with_reducible refine Below.setCell ?_ (by simp <;> omega) _))))
  · go_wp2_with fail
    refine (C3.out _).mono ?_
    rintro e w' ⟨rfl, rfl⟩
    go_wp2_with fail
    exact bodyPost_ret (v := .tuple #[.agg #[.int .i64 0, .int .i64 0, .int .i64 0, .int .i64 0, .int .i64 0], .int .i64 2]) (by simp [results, Try.results37, go_sem, z0, z1, z2, z3, z4]) rfl
      (P2.out (by simp) (by first | rfl | trivial) _ (by repeat (first | (with_reducible exact B4.out) | (with_reducible refine Below.drew ?_) | (with_reducible refine Below.drewN ?_ _) | (with_reducible refine Below.setCell ?_ (by simp <;> omega) _))))
  all_goals
    go_wp2_with fail
    refine (C3.out _).mono ?_
    rintro e w' ⟨rfl, rfl⟩
    clear z0 z1 z2 z3 z4 fz hlz
    obtain ⟨v0, v1, v2, v3, v4, v5⟩ := blk6 KA4.out
    obtain ⟨u0, u1, u2, u3, u4, u5⟩ := blk6 KB4.out
    have E0 := Lib.hid (D0.out (by first | rfl | trivial) (by first | rfl | trivial))
    have E1 := Lib.hid (D1.out (by first | rfl | trivial) (by first | rfl | trivial))
    have E2 := Lib.hid (D2.out (by first | rfl | trivial) (by first | rfl | trivial))
    have E3 := Lib.hid (D3.out (by first | rfl | trivial) (by first | rfl | trivial))
    have E4 := Lib.hid (D4.out (by first | rfl | trivial) (by first | rfl | trivial))
    obtain ⟨⟨p01, p02, p03, p04⟩, ⟨p11, p12, p13, p14⟩, ⟨p21, p22, p23, p24⟩, ⟨p31, p32, p33, p34⟩, ⟨p41, p42, p43, p44⟩⟩ := LB.out (by first | rfl | trivial)
    clear D0 D1 D2 D3 D4 LB
    go_wp2_with fail
    refine (E0.out _).mono ?_
    rintro e w' ⟨rfl, rfl⟩
    clear v0 v1 v2 v3 v4 v5 u0 u1 u2 u3 u4 u5
    have KAn := Lib.hid (blk_keep (below_box w4 (.cells #[.int .i64 y0, .int .i64 0, .int .i64 0, .int .i64 0, .int .i64 0] 59)) KA4.out)
    have KBn := Lib.hid (blk_keep (below_box w4 (.cells #[.int .i64 y0, .int .i64 0, .int .i64 0, .int .i64 0, .int .i64 0] 59)) KB4.out)
    have KZn := Lib.hid (blk_keep (below_box w4 (.cells #[.int .i64 y0, .int .i64 0, .int .i64 0, .int .i64 0, .int .i64 0] 59)) KZ4.out)
    have KYn := Lib.hid (heap_alloc_new w4 (.cells #[.int .i64 y0, .int .i64 0, .int .i64 0, .int .i64 0, .int .i64 0] 59))
    have Bn := Lib.hid (below_then B4.out (below_box w4 (.cells #[.int .i64 y0, .int .i64 0, .int .i64 0, .int .i64 0, .int .i64 0] 59)))
    have n1 := lt_of_heap KA4.out
    have n2 := lt_of_heap KB4.out
    have n3 := lt_of_heap KZ4.out
    go_upto_region 6 with fail
    generalize w4.alloc (.cells #[.int .i64 y0, .int .i64 0, .int .i64 0, .int .i64 0, .int .i64 0] 59) = w5 at KAn KBn KZn KYn Bn ⊢
    generalize hgy : w4.heap.size = gy at KYn n1 n2 n3 ⊢
    clear hgy KA4 KB4 KZ4
    have q1 : gy ≠ w.heap.size := by omega
    have q2 : gy ≠ w.heap.size + 1 := by omega
    have q3 : gy ≠ w.heap.size + 2 := by omega
    have n4 := lt_of_heap KZn.out
    have n5 := lt_of_heap KYn.out
    have hle := B4.out.size
    obtain ⟨v0, v1, v2, v3, v4, v5⟩ := blk6 KAn.out
    obtain ⟨u0, u1, u2, u3, u4, u5⟩ := blk6 KBn.out
    obtain ⟨x0, x1, x2, x3, x4⟩ := blk5 KYn.out
    have fx := blk_free KYn.out
    go_upto_region 10 with (first | (go_at_call_of 76 a1; refine (E1.out _).mono ?_; rintro e w' ⟨rfl, rfl⟩) | (go_at_call_of 76 a2; refine (E2.out _).mono ?_; rintro e w' ⟨rfl, rfl⟩) | (go_at_call_of 76 a3; refine (E3.out _).mono ?_; rintro e w' ⟨rfl, rfl⟩) | (go_at_call_of 76 a4; refine (E4.out _).mono ?_; rintro e w' ⟨rfl, rfl⟩))
    have KY9 : Hid (((((w5.setCell ⟨gy, 1, none⟩ (.int .i64 y1)).setCell ⟨gy, 2, none⟩ (.int .i64 y2)).setCell ⟨gy, 3, none⟩ (.int .i64 y3)).setCell ⟨gy, 4, none⟩ (.int .i64 y4)).heap[gy]? = some (.cells #[.int .i64 y0, .int .i64 y1, .int .i64 y2, .int .i64 y3, .int .i64 y4] 59 (0, 0))) := Lib.hid (by
      have := heap_set (heap_set (heap_set (heap_set KYn.out 1 (.int .i64 y1)) 2 (.int .i64 y2)) 3 (.int .i64 y3)) 4 (.int .i64 y4)
      simpa using this)
    have KZ9 : Hid (((((w5.setCell ⟨gy, 1, none⟩ (.int .i64 y1)).setCell ⟨gy, 2, none⟩ (.int .i64 y2)).setCell ⟨gy, 3, none⟩ (.int .i64 y3)).setCell ⟨gy, 4, none⟩ (.int .i64 y4)).heap[w.heap.size + 2]? = some (.cells #[.int .i64 0, .int .i64 0, .int .i64 0, .int .i64 0, .int .i64 0] 59 (0, 0))) := Lib.hid (by
      rw [Below.heap_setCell _ _ _ _ (Ne.symm q3), Below.heap_setCell _ _ _ _ (Ne.symm q3), Below.heap_setCell _ _ _ _ (Ne.symm q3), Below.heap_setCell _ _ _ _ (Ne.symm q3)]; exact KZn.out)
    have B9 := Lib.hid ((((Bn.out.setCell (p := ⟨gy, 1, none⟩) (by show w.heap.size ≤ gy; omega) (.int .i64 y1)).setCell (p := ⟨gy, 2, none⟩) (by show w.heap.size ≤ gy; omega) (.int .i64 y2)).setCell (p := ⟨gy, 3, none⟩) (by show w.heap.size ≤ gy; omega) (.int .i64 y3)).setCell (p := ⟨gy, 4, none⟩) (by show w.heap.size ≤ gy; omega) (.int .i64 y4))
    clear v0 v1 v2 v3 v4 v5 u0 u1 u2 u3 u4 u5 x0 x1 x2 x3 x4 fx KAn KBn KZn KYn Bn B4 E0 E1 E2 E3 E4
    generalize (((w5.setCell ⟨gy, 1, none⟩ (.int .i64 y1)).setCell ⟨gy, 2, none⟩ (.int .i64 y2)).setCell ⟨gy, 3, none⟩ (.int .i64 y3)).setCell ⟨gy, 4, none⟩ (.int .i64 y4) = w9 at KY9 KZ9 B9 ⊢
    obtain ⟨x0, x1, x2, x3, x4⟩ := blk5 KY9.out
    go_wp2_with fail
    refine (C4.out _).mono ?_
    rintro e wd ⟨rfl, bd⟩
    have B7 := Lib.hid (below_then B9.out bd)
    have KZ7 := Lib.hid (blk_keep bd KZ9.out)
    have KY7 := Lib.hid (blk_keep bd KY9.out)
    clear bd x0 x1 x2 x3 x4 n1 n2 n3 n4 n5
    obtain ⟨x0, x1, x2, x3, x4⟩ := blk5 KY7.out
    obtain ⟨z0, z1, z2, z3, z4⟩ := blk5 KZ7.out
    have fz := blk_free KZ7.out
    have hlz := lt_of_heap KZ7.out
  · go_wp2_with fail
    exact bodyPost_ret (v := .tuple #[.agg #[.int .i64 0, .int .i64 0, .int .i64 0, .int .i64 0, .int .i64 0], .int .i64 6]) (by simp [results, Try.results37, go_sem, z0, z1, z2, z3, z4]) rfl
      (P3.out (by simp) (by first | rfl | trivial) (by first | rfl | trivial) _ (by repeat (first | (with_reducible exact B7.out) | (with_reducible refine Below.drew ?_) | (with_reducible refine Below.drewN ?_ _) | (with_reducible refine Below.setCell ?_ (by simp <;> omega) _))))
  · go_wp2_with fail
    exact bodyPost_ret (v := .tuple #[.agg #[.int .i64 y0, .int .i64 y1, .int .i64 y2, .int .i64 y3, .int .i64 y4], .int .i64 0]) (by simp [results, Try.results37, go_sem, z0, z1, z2, z3, z4]) rfl
      (P4.out (by simp) (by first | rfl | trivial) (by first | rfl | trivial) _ (by repeat (first | (with_reducible exact B7.out) | (with_reducible refine Below.drew ?_) | (with_reducible refine Below.drewN ?_ _) | (with_reducible refine Below.setCell ?_ (by simp <;> omega) _))))
set_option maxRecDepth 100000 in
set_option maxHeartbeats 4000000 in
theorem impl_gb (s s' : ByteArray) (a b : Nat → Int) (st : Int) (hs : s.size ≤ maxLen) (hs' : s'.size ≤ maxLen) (w : World) : Calls Try.prog 38 #[laV s a, laV s' b, .int .i64 st] w (GbAt s s' a b st w) := by
  have C1 := Lib.hid (fun w => one_impl s a hs w)
  have C2 := Lib.hid (fun w => one_impl s' b hs' w)
  have C3 := Lib.hid (fun w => within_any st 1 30 w)
  have C4 := Lib.hid (fun w => valid_gr (gb a b st) w)
  have eg : ∀ args w, (callFunc 79 args).run Try.prog w = .ok (.enter 79 args) w := enters_of Try.func79 (by kernel_rfl) rfl
  have CJ : Hid ((laB s a && laB s' b) = true → inB st 1 30 = true → ∀ W : World, W.cell? ⟨w.heap.size + 2, 0, none⟩ = some (.int .i64 st) → w.heap.size + 2 < W.heap.size → Calls Try.prog 78 #[laV s a, laV s' b, .func (.func 79) #[] #[.pointer (some ⟨w.heap.size + 2, 0, none⟩)]] W fun e w' => e = .returned (fvV (gb a b st)) ∧ Below W.heap.size W w') := Lib.hid fun h1 h3 W hc hlt =>
    joined_la s s' a b (gb a b st) 79 #[.pointer (some ⟨w.heap.size + 2, 0, none⟩)] W eg (fun k W' hk hb => by
      have h1' : laB s a = true ∧ laB s' b = true := by simpa using h1
      have h3' : 1 ≤ st ∧ st ≤ 30 := by simpa [inB] using h3
      obtain ⟨l1, l2⟩ := la_at h1'.1 hk
      obtain ⟨g1, g2⟩ := la_at h1'.2 hk
      exact clo_any (a k) (b k) st (w.heap.size + 2) l1 l2 g1 g2 h3'.1 h3'.2 W' ((hb.cell (p := ⟨w.heap.size + 2, 0, none⟩) hlt).trans hc))
  have CG := Lib.hid (fun w => grade_any (gb a b st) w)
  clear eg
  have P1 : Hid ((laB s a && laB s' b) = false → ∀ w', Below w.heap.size w w' → GbAt s s' a b st w (.returned (.tuple #[.agg #[.int .i64 0, .int .i64 0, .int .i64 0, .int .i64 0, .int .i64 0], .int .i64 1])) w') := Lib.hid fun h w' hb => gb_not (by simp [gbC, h]) (by omega) hb
  have P2 : Hid ((laB s a && laB s' b) = true → inB st 1 30 = false → ∀ w', Below w.heap.size w w' → GbAt s s' a b st w (.returned (.tuple #[.agg #[.int .i64 0, .int .i64 0, .int .i64 0, .int .i64 0, .int .i64 0], .int .i64 2])) w') := Lib.hid fun h h' w' hb => gb_not (by simp [gbC, h, h']) (by omega) hb
  have P3 : Hid ((laB s a && laB s' b) = true → inB st 1 30 = true → grB (gb a b st) = false → ∀ w', Below w.heap.size w w' → GbAt s s' a b st w (.returned (.tuple #[.agg #[.int .i64 0, .int .i64 0, .int .i64 0, .int .i64 0, .int .i64 0], .int .i64 6])) w') := Lib.hid fun h h' h'' w' hb => gb_not (by simp [gbC, h, h', h'']) (by omega) hb
  have P4 : Hid ((laB s a && laB s' b) = true → inB st 1 30 = true → grB (gb a b st) = true → ∀ w', Below w.heap.size w w' → GbAt s s' a b st w (.returned (.tuple #[fvV (gb a b st), .int .i64 0])) w') := Lib.hid fun h h' h'' w' hb => gb_yes (by simp [gbC, h, h', h'']) hb
  obtain ⟨ka, kb, ks⟩ := three w (laC s a 33) (laC s' b 33) (.cells #[.int .i64 st] 2)
  have B0 := Lib.hid (below_then (below3 w (laC s a 33) (laC s' b 33) (.cells #[.int .i64 st] 2)) (below_box _ (.cells #[.int .i64 0, .int .i64 0, .int .i64 0, .int .i64 0, .int .i64 0] 59)))
  have kz := heap_alloc_new (((w.alloc (laC s a 33)).alloc (laC s' b 33)).alloc (.cells #[.int .i64 st] 2)) (.cells #[.int .i64 0, .int .i64 0, .int .i64 0, .int .i64 0, .int .i64 0] 59)
  rw [show (((w.alloc (laC s a 33)).alloc (laC s' b 33)).alloc (.cells #[.int .i64 st] 2)).heap.size = w.heap.size + 3 by simp] at kz
  replace ka := blk_keep (below_box _ (.cells #[.int .i64 0, .int .i64 0, .int .i64 0, .int .i64 0, .int .i64 0] 59)) ka
  replace kb := blk_keep (below_box _ (.cells #[.int .i64 0, .int .i64 0, .int .i64 0, .int .i64 0, .int .i64 0] 59)) kb
  replace ks := blk_keep (below_box _ (.cells #[.int .i64 0, .int .i64 0, .int .i64 0, .int .i64 0, .int .i64 0] 59)) ks
  generalize GbAt s s' a b st w = Q at P1 P2 P3 P4 ⊢
  generalize laB s a = r1 at C1 CJ P1 P2 P3 P4
  generalize laB s' b = r2 at C2 CJ P1 P2 P3 P4
  generalize inB st 1 30 = r3 at C3 CJ P2 P3 P4
  generalize grB (gb a b st) = r4 at C4 P3 P4
  simp only [laV, fvV, laC] at ka kb ks kz B0 C1 C2 C4 CJ CG P4 ⊢
  generalize hy : gb a b st = y at *
  clear hy
  generalize hx0 : a 0 = a0, a 1 = a1, a 2 = a2, a 3 = a3, a 4 = a4, b 0 = b0, b 1 = b1, b 2 = b2, b 3 = b3, b 4 = b4, y 0 = y0, y 1 = y1, y 2 = y2, y 3 = y3, y 4 = y4 at *
  clear hx0
  have KA := Lib.hid ka
  have KB := Lib.hid kb
  have KS := Lib.hid ks
  have KZ := Lib.hid kz
  clear ka kb kz ks
  have R : (r1 = false) ∨ (r1 = true ∧ r2 = false) ∨ (r1 = true ∧ r2 = true ∧ r3 = false) ∨ (r1 = true ∧ r2 = true ∧ r3 = true ∧ r4 = false) ∨ (r1 = true ∧ r2 = true ∧ r3 = true ∧ r4 = true) := by cases r1 <;> cases r2 <;> cases r3 <;> cases r4 <;> simp
  go_enter Try.func38, Try.ntmps38
  go_upto_region 1 with fail
  generalize hw2 : (((w.alloc _).alloc _).alloc _).alloc _ = w2 at KA KB KS KZ B0 ⊢
  clear hw2
  have CR : Hid (∀ r w, Calls Try.prog 73 #[.bool r, .bool r3] w fun e w' => e = .returned (.int .i64 (Ba.argE r r3)) ∧ w = w') := Lib.hid fun r w => Ba.arg_any r r3 w
  obtain ⟨v0, v1, v2, v3, v4, v5⟩ := blk6 KA.out
  obtain ⟨u0, u1, u2, u3, u4, u5⟩ := blk6 KB.out
  have s0 : w2.cell? ⟨w.heap.size + 2, 0, none⟩ = some (.int .i64 st) := cell_of_row _ _ _ _ _ _ KS.out
  have v0 := bey_cell v0
  have u0 := bey_cell u0
  have v1 := bey_cell v1
  have u1 := bey_cell u1
  have v2 := bey_cell v2
  have u2 := bey_cell u2
  have v3 := bey_cell v3
  have u3 := bey_cell u3
  have v4 := bey_cell v4
  have u4 := bey_cell u4
  have v5 := bey_cell v5
  have u5 := bey_cell u5
  have s0 := bey_cell s0
  rcases R with rfl | ⟨rfl, rfl⟩ | ⟨rfl, rfl, rfl⟩ | ⟨rfl, rfl, rfl, rfl⟩ | ⟨rfl, rfl, rfl, rfl⟩
  all_goals
    refine wp_region_below (by kernel_rfl) (by kernel_rfl) ?_
    repeat (go_big_quiet_step ((first | (go_at_call_of 77 a0; exact bey_of _ (C1.out _)) | (go_at_call_of 77 b0; exact bey_of _ (C2.out _)) | (go_at_call 72; exact bey_same _ (C3.out _)) | (go_at_call 73; exact bey_same _ (CR.out _ _)))))
    refine wpQuiet_nil ?_
    rintro _ ⟨pq, rfl⟩
    have B4 := Lib.hid (below_then B0.out pq.h)
    have KA4 := Lib.hid (blk_keep pq.h KA.out)
    have KB4 := Lib.hid (blk_keep pq.h KB.out)
    have KS4 := Lib.hid (blk_keep pq.h KS.out)
    have KZ4 := Lib.hid (blk_keep pq.h KZ.out)
    generalize pq.to = w4 at B4 KA4 KB4 KS4 KZ4 ⊢
    clear v0 v1 v2 v3 v4 v5 u0 u1 u2 u3 u4 u5 s0 KA KB KS KZ B0
    obtain ⟨z0, z1, z2, z3, z4⟩ := blk5 KZ4.out
    have fz := blk_free KZ4.out
    have hlz := lt_of_heap KZ4.out
    simp only [Ba.argE]
  · go_wp2_with fail
    exact bodyPost_ret (v := .tuple #[.agg #[.int .i64 0, .int .i64 0, .int .i64 0, .int .i64 0, .int .i64 0], .int .i64 1]) (by simp [results, Try.results38, go_sem, z0, z1, z2, z3, z4]) rfl
      (P1.out (by simp) _ (by repeat (first | (with_reducible exact B4.out) | (with_reducible refine Below.drew ?_) | (with_reducible refine Below.drewN ?_ _) | (with_reducible refine Below.setCell ?_ (by simp <;> omega) _))))
  · go_wp2_with fail
    exact bodyPost_ret (v := .tuple #[.agg #[.int .i64 0, .int .i64 0, .int .i64 0, .int .i64 0, .int .i64 0], .int .i64 1]) (by simp [results, Try.results38, go_sem, z0, z1, z2, z3, z4]) rfl
      (P1.out (by simp) _ (by repeat (first | (with_reducible exact B4.out) | (with_reducible refine Below.drew ?_) | (with_reducible refine Below.drewN ?_ _) | (with_reducible refine Below.setCell ?_ (by simp <;> omega) _))))
  · go_wp2_with fail
    exact bodyPost_ret (v := .tuple #[.agg #[.int .i64 0, .int .i64 0, .int .i64 0, .int .i64 0, .int .i64 0], .int .i64 2]) (by simp [results, Try.results38, go_sem, z0, z1, z2, z3, z4]) rfl
      (P2.out (by simp) (by first | rfl | trivial) _ (by repeat (first | (with_reducible exact B4.out) | (with_reducible refine Below.drew ?_) | (with_reducible refine Below.drewN ?_ _) | (with_reducible refine Below.setCell ?_ (by simp <;> omega) _))))
  all_goals
    obtain ⟨v0, v1, v2, v3, v4, v5⟩ := blk6 KA4.out
    obtain ⟨u0, u1, u2, u3, u4, u5⟩ := blk6 KB4.out
    have s0 : w4.cell? ⟨w.heap.size + 2, 0, none⟩ = some (.int .i64 st) := cell_of_row _ _ _ _ _ _ KS4.out
    have hls := lt_of_heap KS4.out
    clear z0 z1 z2 z3 z4 fz hlz
    go_wp2_with fail
    refine (CJ.out (by first | rfl | trivial) (by first | rfl | trivial) _ s0 hls).mono ?_
    rintro e w5 ⟨rfl, b5⟩
    have B5 := Lib.hid (below_then B4.out b5)
    have KZ5 := Lib.hid (blk_keep b5 KZ4.out)
    clear b5 v0 v1 v2 v3 v4 v5 u0 u1 u2 u3 u4 u5 s0 hls KA4 KB4 KS4 KZ4 B4 CJ
    go_wp2_with fail
    refine (CG.out _).mono ?_
    rintro e w6 ⟨rfl, b6⟩
    have B6 := Lib.hid (below_then B5.out b6)
    have KZ6 := Lib.hid (blk_keep b6 KZ5.out)
    clear b6 KZ5 B5 CG
    have Bn := Lib.hid (below_then B6.out (below_box w6 (.cells #[.int .i64 y0, .int .i64 y1, .int .i64 y2, .int .i64 y3, .int .i64 y4] 59)))
    have KZn := Lib.hid (blk_keep (below_box w6 (.cells #[.int .i64 y0, .int .i64 y1, .int .i64 y2, .int .i64 y3, .int .i64 y4] 59)) KZ6.out)
    have KYn := Lib.hid (heap_alloc_new w6 (.cells #[.int .i64 y0, .int .i64 y1, .int .i64 y2, .int .i64 y3, .int .i64 y4] 59))
    go_upto_region 5 with fail
    generalize w6.alloc (.cells #[.int .i64 y0, .int .i64 y1, .int .i64 y2, .int .i64 y3, .int .i64 y4] 59) = w7 at Bn KZn KYn ⊢
    generalize w6.heap.size = gy at KYn ⊢
    obtain ⟨x0, x1, x2, x3, x4⟩ := blk5 KYn.out
    go_wp2_with fail
    refine (C4.out _).mono ?_
    rintro e wd ⟨rfl, bd⟩
    have B7 := Lib.hid (below_then Bn.out bd)
    have KZ7 := Lib.hid (blk_keep bd KZn.out)
    have KY7 := Lib.hid (blk_keep bd KYn.out)
    clear bd x0 x1 x2 x3 x4
    obtain ⟨x0, x1, x2, x3, x4⟩ := blk5 KY7.out
    obtain ⟨z0, z1, z2, z3, z4⟩ := blk5 KZ7.out
    have fz := blk_free KZ7.out
    have hlz := lt_of_heap KZ7.out
  · go_wp2_with fail
    exact bodyPost_ret (v := .tuple #[.agg #[.int .i64 0, .int .i64 0, .int .i64 0, .int .i64 0, .int .i64 0], .int .i64 6]) (by simp [results, Try.results38, go_sem, z0, z1, z2, z3, z4]) rfl
      (P3.out (by simp) (by first | rfl | trivial) (by first | rfl | trivial) _ (by repeat (first | (with_reducible exact B7.out) | (with_reducible refine Below.drew ?_) | (with_reducible refine Below.drewN ?_ _) | (with_reducible refine Below.setCell ?_ (by simp <;> omega) _))))
  · go_wp2_with fail
    exact bodyPost_ret (v := .tuple #[.agg #[.int .i64 y0, .int .i64 y1, .int .i64 y2, .int .i64 y3, .int .i64 y4], .int .i64 0]) (by simp [results, Try.results38, go_sem, z0, z1, z2, z3, z4]) rfl
      (P4.out (by simp) (by first | rfl | trivial) (by first | rfl | trivial) _ (by repeat (first | (with_reducible exact B7.out) | (with_reducible refine Below.drew ?_) | (with_reducible refine Below.drewN ?_ _) | (with_reducible refine Below.setCell ?_ (by simp <;> omega) _))))
end Go.Proofs.Ytaoknbhpjnileab.Hb
