/- Both functions LengthOn. -/
import Derived.Test.YtpmmfalpcooenabGwLib
namespace Go.Proofs.Ytpmmfalpcooenab.Lo
open Go.RowKit Ft Fs Ld Is Fc Cl Gm Gb Gr Qb Gd Fg Gw

/-- The length on a day. -/
def ln (n : Nat) (d x : Nat → Int) (day : Int) : Int := fl (2 * (sm x n * pairs d d n + pairs d x n * ((n : Int) * day - sm d n)) + (n : Int) * pairs d d n) (2 * ((n : Int) * pairs d d n))
/-- All bounds. -/
def Bds (N S1 S2 P1 P2 day : Int) : Prop := 2 ≤ N ∧ N ≤ 30 ∧ 0 ≤ S1 ∧ S1 ≤ 300000 ∧ 0 ≤ S2 ∧ S2 ≤ 150000 ∧ -90000000000 ≤ P1 ∧ P1 ≤ 90000000000 ∧ 1 ≤ P2 ∧ P2 ≤ 90000000000 ∧ 0 ≤ day ∧ day ≤ 20000
theorem bds_of {n : Nat} {d : Nat → Int} {F : Nat → Nat → Int} {day : Int} (ho : Okay n F) (hr : Ri n d) (h2 : 2 ≤ n) (h3 : 0 ≤ day) (h4 : day ≤ 20000) : Bds n (sm d n) (sm (fun i => F i 0) n) (pairs d (fun i => F i 0) n) (pairs d d n) day := by
  have a := slope_bd ho hr h2
  have b := sums_bd (ok_of ho hr) (Nat.le_refl n)
  have c := ho.1
  unfold Bds
  omega
theorem prods {N S1 S2 P1 P2 day : Int} (h : Bds N S1 S2 P1 P2 day) : 0 ≤ S2 * P2 ∧ S2 * P2 ≤ 13500000000000000 ∧ 0 ≤ N * day ∧ N * day ≤ 600000 ∧ -54000000000000000 ≤ P1 * (N * day - S1) ∧ P1 * (N * day - S1) ≤ 54000000000000000 ∧ 1 ≤ N * P2 ∧ N * P2 ≤ 2700000000000 := by
  obtain ⟨h1, h2, h3, h4, h5, h6, h7, h8, h9, h10, h11, h12⟩ := h
  have a := prod_bd (u := S2) (v := P2) (a := 150000) (b := 90000000000) (by omega) (by omega) (by omega) (by omega)
  have a' := Int.mul_nonneg h5 (show 0 ≤ P2 by omega)
  have b := prod_bd (u := N) (v := day) (a := 30) (b := 20000) (by omega) (by omega) (by omega) (by omega)
  have b' := Int.mul_nonneg (show 0 ≤ N by omega) h11
  have c := prod_bd (u := P1) (v := N * day - S1) (a := 90000000000) (b := 600000) (by omega) (by omega) (by omega) (by omega)
  have d := prod_bd (u := N) (v := P2) (a := 30) (b := 90000000000) (by omega) (by omega) (by omega) (by omega)
  have d' := Int.mul_le_mul (show (1 : Int) ≤ N by omega) h9 (by omega) (by omega)
  omega

set_option maxHeartbeats 1000000 in
set_option maxRecDepth 100000 in
theorem on_any (N S1 S2 P1 P2 day : Int) (h : Bds N S1 S2 P1 P2 day) (w : World) :
    Calls Try.prog 67 #[.agg #[.int .i64 N, .int .i64 S1, .int .i64 S2, .int .i64 P1, .int .i64 P2], .int .i64 day] w fun e w' => e = .returned (.int .i64 (fl (2 * (S2 * P2 + P1 * (N * day - S1)) + N * P2) (2 * (N * P2)))) ∧ Below w.heap.size w w' := by
  obtain ⟨q1, q2, q3, q4, q5, q6, q7, q8⟩ := prods h
  have C := Lib.hid (fun w => near_impl (S2 * P2 + P1 * (N * day - S1)) (N * P2) (by omega) (by omega) (by omega) (by omega) w)
  obtain ⟨h1, h2, h3, h4, h5, h6, h7, h8, h9, h10, h11, h12⟩ := h
  generalize fl (2 * (S2 * P2 + P1 * (N * day - S1)) + N * P2) (2 * (N * P2)) = r at C ⊢
  have K := heap_alloc_new w (.cells #[.int .i64 N, .int .i64 S1, .int .i64 S2, .int .i64 P1, .int .i64 P2] 90)
  have HB := Lib.hid (below_box w (.cells #[.int .i64 N, .int .i64 S1, .int .i64 S2, .int .i64 P1, .int .i64 P2] 90))
  go_enter Try.func67, Try.ntmps67
  go_wp2_with fail
  generalize w.alloc (.cells #[.int .i64 N, .int .i64 S1, .int .i64 S2, .int .i64 P1, .int .i64 P2] 90) = W at K HB ⊢
  refine (C.out _).mono ?_
  rintro e w' ⟨rfl, rfl⟩
  go_wp2_with fail
  go_ret
  exact ⟨rfl, HB.out⟩

set_option maxRecDepth 100000 in
set_option maxHeartbeats 2000000 in
theorem spec_on (A B : Option Addr) (n c c' : Nat) (d : Nat → Int) (F : Nat → Nat → Int) (day : Int) (hn : n ≤ 1048576) (hz : codeD n d n F day = 0) (ho : Okay n F) (hr : Ri n d) (h2 : 2 ≤ n) (h3 : 0 ≤ day) (h4 : day ≤ 20000) (w : World) (hA : Nums w w.heap.size A n d) (hB : Ints w w.heap.size 4 B n F) :
    Calls Try.prog 23 #[.slice A n c, .slice B n c', .int .i64 day] w (TwoAt (ln n d (fun i => F i 0) day) 0 w) := by
  have HA := Lib.hid hA
  have HB := Lib.hid hB
  have CD := Lib.hid (fun w h1 h2 => spec_days A B n c n c' d F day hn hn w h1 h2)
  rw [hz] at CD
  have hb := bds_of ho hr h2 h3 h4
  have CL := Lib.hid (fun B cb w h1 h2 => spec_line A B n c cb d (fun i => F i 0) (ok_of ho hr) w h1 h2)
  have CX := Lib.hid (fun A c w h => sum_any A n c (fun i => F i 0) 5000 ho.1 (by omega) (by omega) (fun i hi => by have : 0 ≤ d i ∧ d i ≤ 10000 ∧ 500 ≤ F i 0 ∧ F i 0 ≤ 5000 := (ok_of ho hr).2 i hi; exact ⟨by omega, this.2.2.2⟩) w h)
  have CY := Lib.hid (fun A c w h => sum_any A n c d 10000 ho.1 (by omega) (by omega) (fun i hi => by have : 0 ≤ d i ∧ d i ≤ 10000 ∧ 500 ≤ F i 0 ∧ F i 0 ≤ 5000 := (ok_of ho hr).2 i hi; exact ⟨this.1, this.2.1⟩) w h)
  obtain ⟨q1, q2, q3, q4, q5, q6, q7, q8⟩ := prods hb
  have CM := Lib.hid (fun w => near_spec (sm (fun i => F i 0) n * pairs d d n + pairs d (fun i => F i 0) n * ((n : Int) * day - sm d n)) ((n : Int) * pairs d d n) (by omega) (by omega) (by omega) (by omega) w)
  obtain ⟨h1, h2, h3, h4, h5, h6, h7, h8, h9, h10, h11, h12⟩ := hb
  unfold ln
  clear hA hB hz ho hr
  generalize pairs d (fun i => F i 0) n = P1 at *
  generalize pairs d d n = P2 at *
  generalize sm d n = S1 at *
  generalize sm (fun i => F i 0) n = S2 at *
  generalize fl (2 * (S2 * P2 + P1 * ((n : Int) * day - S1)) + (n : Int) * P2) (2 * ((n : Int) * P2)) = r at CM ⊢
  go_enter Try.func23, Try.ntmps23
  go_wp2_with fail
  refine (CD.out _ HA.out HB.out).mono ?_
  rintro e w1 ⟨rfl, b1⟩
  have HB1 := Lib.hid b1
  clear b1
  go_wp2_with fail
  refine (spec_col B n c' 0 F hn (by omega) _ ((HB.out.below HB1.out (Nat.le_refl _)).more HB1.out.size)).mono ?_
  rintro e w2 ⟨A2, cap2, rfl, HO2, b2⟩
  have HB2 := Lib.hid (below_then HB1.out b2)
  have HN2 := Lib.hid HO2.out.nums
  clear b2 HO2
  go_wp2_with fail
  refine (CL.out _ _ _ ((HA.out.below HB2.out (Nat.le_refl _)).more HB2.out.size) HN2.out).mono ?_
  rintro e w3 ⟨rfl, b3⟩
  have HB3 := Lib.hid (below_then HB2.out b3)
  have HN3 := Lib.hid ((HN2.out.below b3 (Nat.le_refl _)).more b3.size)
  have HA3 := Lib.hid ((HA.out.below HB3.out (Nat.le_refl _)).more HB3.out.size)
  clear b3
  go_wp2_with fail
  refine (CX.out A2 cap2 _ HN3.out).mono ?_
  rintro e w' ⟨rfl, rfl⟩
  go_wp2_with fail
  refine (CY.out A c _ HA3.out).mono ?_
  rintro e w' ⟨rfl, rfl⟩
  go_wp2_with fail
  refine (CM.out _).mono ?_
  rintro e w' ⟨rfl, rfl⟩
  go_wp2_with fail
  exact bodyPost_ret (v := .tuple #[.int .i64 r, .int .i64 0]) (by simp [results, Try.results23, go_sem]) rfl ⟨rfl, HB3.out⟩

set_option maxRecDepth 100000 in
set_option maxHeartbeats 2000000 in
theorem impl_on (A B : Option Addr) (n c c' : Nat) (d : Nat → Int) (F : Nat → Nat → Int) (day : Int) (hn : n ≤ 1048576) (hz : codeD n d n F day = 0) (ho : Okay n F) (hr : Ri n d) (h2 : 2 ≤ n) (h3 : 0 ≤ day) (h4 : day ≤ 20000) (w : World) (hA : Nums w w.heap.size A n d) (hB : Ints w w.heap.size 4 B n F) :
    Calls Try.prog 24 #[.slice A n c, .slice B n c', .int .i64 day] w (TwoAt (ln n d (fun i => F i 0) day) 0 w) := by
  have HA := Lib.hid hA
  have HB := Lib.hid hB
  have CD := Lib.hid (fun w h1 h2 => impl_days A B n c n c' d F day hn hn w h1 h2)
  rw [hz] at CD
  have CL := Lib.hid (fun w h1 h2 => impl_line A B n c c' d F (ok_of ho hr) w h1 h2)
  have CM := Lib.hid (fun w => on_any n (sm d n) (sm (fun i => F i 0) n) (pairs d (fun i => F i 0) n) (pairs d d n) day (bds_of ho hr h2 h3 h4) w)
  unfold ln
  clear hA hB hz ho hr
  generalize pairs d (fun i => F i 0) n = P1 at *
  generalize pairs d d n = P2 at *
  generalize sm d n = S1 at *
  generalize sm (fun i => F i 0) n = S2 at *
  generalize fl (2 * (S2 * P2 + P1 * ((n : Int) * day - S1)) + (n : Int) * P2) (2 * ((n : Int) * P2)) = r at CM ⊢
  go_enter Try.func24, Try.ntmps24
  go_wp2_with fail
  refine (CD.out _ HA.out HB.out).mono ?_
  rintro e w1 ⟨rfl, b1⟩
  have HB1 := Lib.hid b1
  clear b1
  go_wp2_with fail
  refine (CL.out _ ((HA.out.below HB1.out (Nat.le_refl _)).more HB1.out.size) ((HB.out.below HB1.out (Nat.le_refl _)).more HB1.out.size)).mono ?_
  rintro e w2 ⟨rfl, b2⟩
  have HB2 := Lib.hid (below_then HB1.out b2)
  clear b2
  go_wp2_with fail
  refine (CM.out _).mono ?_
  rintro e w3 ⟨rfl, b3⟩
  have HB3 := Lib.hid (below_then HB2.out b3)
  clear b3
  go_wp2_with fail
  exact bodyPost_ret (v := .tuple #[.int .i64 r, .int .i64 0]) (by simp [results, Try.results24, go_sem]) rfl ⟨rfl, HB3.out⟩
theorem spec_on_no (A B : Option Addr) (n c m c' : Nat) (d : Nat → Int) (F : Nat → Nat → Int) (day : Int) (hn : n ≤ 1048576) (hm : m ≤ 1048576) (hc : (codeD n d m F day != 0) = true) (w : World) (hA : Nums w w.heap.size A n d) (hB : Ints w w.heap.size 4 B m F) :
    Calls Try.prog 23 #[.slice A n c, .slice B m c', .int .i64 day] w (TwoAt 0 (codeD n d m F day) w) := by
  have HA := Lib.hid hA
  have HB := Lib.hid hB
  have CD := Lib.hid (fun w h1 h2 => spec_days A B n c m c' d F day hn hm w h1 h2)
  clear hA hB
  generalize codeD n d m F day = cd at hc CD ⊢
  go_enter Try.func23, Try.ntmps23
  go_wp2_with fail
  refine (CD.out _ HA.out HB.out).mono ?_
  rintro e w1 ⟨rfl, b1⟩
  have HB1 := Lib.hid b1
  clear b1
  go_wp2_with fail
  exact bodyPost_ret (v := .tuple #[.int .i64 0, .int .i64 cd]) (by simp [results, Try.results23, go_sem]) rfl ⟨rfl, HB1.out⟩
theorem impl_on_no (A B : Option Addr) (n c m c' : Nat) (d : Nat → Int) (F : Nat → Nat → Int) (day : Int) (hn : n ≤ 1048576) (hm : m ≤ 1048576) (hc : (codeD n d m F day != 0) = true) (w : World) (hA : Nums w w.heap.size A n d) (hB : Ints w w.heap.size 4 B m F) :
    Calls Try.prog 24 #[.slice A n c, .slice B m c', .int .i64 day] w (TwoAt 0 (codeD n d m F day) w) := by
  have HA := Lib.hid hA
  have HB := Lib.hid hB
  have CD := Lib.hid (fun w h1 h2 => impl_days A B n c m c' d F day hn hm w h1 h2)
  clear hA hB
  generalize codeD n d m F day = cd at hc CD ⊢
  go_enter Try.func24, Try.ntmps24
  go_wp2_with fail
  refine (CD.out _ HA.out HB.out).mono ?_
  rintro e w1 ⟨rfl, b1⟩
  have HB1 := Lib.hid b1
  clear b1
  go_wp2_with fail
  exact bodyPost_ret (v := .tuple #[.int .i64 0, .int .i64 cd]) (by simp [results, Try.results24, go_sem]) rfl ⟨rfl, HB1.out⟩
end Go.Proofs.Ytpmmfalpcooenab.Lo
