/- Both functions GrowthOf and both functions LengthOn. -/
import Derived.Test.YtpmmfalpcooenabGdLib
import Derived.Test.YtpmmfalpcooenabFgLib
namespace Go.Proofs.Ytpmmfalpcooenab.Gw
open Go.RowKit Ft Fs Ld Is Fc Cl Gm Gb Gr Qb Gd Fg

theorem ok_of {n : Nat} {d : Nat → Int} {F : Nat → Nat → Int} (ho : Okay n F) (hr : Ri n d) : Ok n d (fun i => F i 0) := ⟨ho.1, fun i hi => by
  have a := ho.2 i hi
  have b := hr.1 i hi
  simp [ftAt, ftB, inB] at a b
  show 0 ≤ d i ∧ d i ≤ 10000 ∧ 500 ≤ F i 0 ∧ F i 0 ≤ 5000
  omega⟩
theorem code_zero {n m : Nat} {d : Nat → Int} {F : Nat → Nat → Int} {day : Int} (h : (codeD n d m F day != 0) = false) : n = m ∧ Okay n F ∧ Ri n d ∧ 2 ≤ n ∧ 0 ≤ day ∧ day ≤ 20000 := by
  have h0 : codeD n d m F day = 0 := by simpa using h
  by_cases ho : Okay m F
  · by_cases h2 : (n = m ∧ Ri n d) ∧ inB day 0 20000 = true
    · by_cases h3 : m < 2
      · rw [cd_3 ho h2 h3] at h0; cases h0
      · obtain ⟨⟨rfl, hr⟩, hi⟩ := h2
        simp [inB] at hi
        exact ⟨rfl, ho, hr, by omega, hi.1, hi.2⟩
    · rw [cd_2 ho h2] at h0; cases h0
  · rw [cd_1 ho] at h0; cases h0
/-- A fraction and a code. -/
def FracAt (a b c : Int) (w : World) (e : Ending) (w' : World) : Prop := e = .returned (.tuple #[.agg #[.int .i64 a, .int .i64 b], .int .i64 c]) ∧ Below w.heap.size w w'
/-- A number and a code. -/
def TwoAt (a c : Int) (w : World) (e : Ending) (w' : World) : Prop := e = .returned (.tuple #[.int .i64 a, .int .i64 c]) ∧ Below w.heap.size w w'
theorem blk2 {w : World} {g : Nat} {t : TypeId} {c0 c1 : Value} (h : w.heap[g]? = some (.cells #[c0, c1] t (0, 0))) : w.cell? ⟨g, 0, none⟩ = some c0 ∧ w.cell? ⟨g, 1, none⟩ = some c1 :=
  ⟨cell_of_row _ _ _ _ _ _ h, cell_of_row _ _ _ _ _ _ h⟩

set_option maxHeartbeats 1000000 in
theorem sum_any (A : Option Addr) (n c : Nat) (f : Nat → Int) (b : Int) (hn : n ≤ 30) (hb : 0 ≤ b) (hb' : b ≤ 10000) (hf : ∀ i, i < n → 0 ≤ f i ∧ f i ≤ b) (w : World) (hA : Nums w w.heap.size A n f) : Calls Try.prog 66 #[.slice A n c] w fun e w' => e = .returned (.int .i64 (sm f n)) ∧ w = w' := by
  have HA := Lib.hid hA
  have HF := Lib.hid hf
  clear hA hf
  go_enter Try.func66, Try.ntmps66
  go_wp2_with fail
  go_loopw [3, 4] (fun s i wr => ∃ k : Nat, k ≤ n ∧ i = .int .i64 k ∧ s = .int .i64 (sm f k) ∧ w = wr) (fun _ i _ => n - (intOf i).toNat)
  case atStart => exact ⟨0, Nat.zero_le _, rfl, rfl, rfl⟩
  case round =>
    obtain ⟨k, hk, rfl, rfl, rfl⟩ := hrel
    by_cases hlt : k < n
    · obtain ⟨g, off, rfl, _, hc⟩ := HA.out (by omega)
      have x0 := hc k hlt
      obtain ⟨s1, s2⟩ := sm_bd HF.out k (by omega)
      have s3 : b * (k : Int) ≤ 10000 * 30 := Int.mul_le_mul hb' (by omega) (by omega) (by omega)
      obtain ⟨f1, f2⟩ := HF.out k hlt
      have HS : Hid (sm f (k + 1) = sm f k + f k) := Lib.hid rfl
      have e0 : (0 : Int) ≤ (k : Int) := Int.natCast_nonneg _
      have e1 : (k : Int) < (n : Int) := by omega
      clear hc
      have s4 : sm f k ≤ 300000 := by omega
      clear s2 s3
      generalize sm f k = S at *
      generalize f k = u at *
      go_wp2_with fail
      all_goals (try go_quiet (fail))
      all_goals (try go_wp2_with fail)
      go_roundw
      case rel => exact ⟨k + 1, by omega, by go_num, by rw [HS.out], by first | rfl | trivial⟩
      case measure => simp [intOf]; omega
    · obtain rfl : k = n := by omega
      go_wp2_with fail
      go_ret
      exact ⟨rfl, rfl⟩

/-- The slope's bounds. -/
theorem slope_bd {n : Nat} {d : Nat → Int} {F : Nat → Nat → Int} (ho : Okay n F) (hr : Ri n d) (h2 : 2 ≤ n) : -90000000000 ≤ pairs d (fun i => F i 0) n ∧ pairs d (fun i => F i 0) n ≤ 90000000000 ∧ 1 ≤ pairs d d n ∧ pairs d d n ≤ 90000000000 := by
  have h := pairs_bd (ok_of ho hr) n (Nat.le_refl _)
  have p := pairs_pos (ok_of ho hr) (hr.2 0 (by omega)) h2
  have h30 := ho.1
  omega
set_option maxRecDepth 100000 in
theorem spec_grow (A B : Option Addr) (n c c' : Nat) (d : Nat → Int) (F : Nat → Nat → Int) (hn : n ≤ 1048576) (hz : codeD n d n F 0 = 0) (ho : Okay n F) (hr : Ri n d) (h2 : 2 ≤ n) (w : World) (hA : Nums w w.heap.size A n d) (hB : Ints w w.heap.size 4 B n F) :
    Calls Try.prog 16 #[.slice A n c, .slice B n c'] w (FracAt (nm (pairs d (fun i => F i 0) n) (pairs d d n)) (dn (pairs d (fun i => F i 0) n) (pairs d d n)) 0 w) := by
  have HA := Lib.hid hA
  have HB := Lib.hid hB
  have CD := Lib.hid (fun w h1 h2 => spec_days A B n c n c' d F 0 hn hn w h1 h2)
  rw [hz] at CD
  obtain ⟨q1, q2, q3, q4⟩ := slope_bd ho hr h2
  have CL := Lib.hid (fun B c w h1 h2 => spec_line A B n c' c d (fun i => F i 0) (ok_of ho hr) w h1 h2)
  have CL := Lib.hid (fun B cb w h1 h2 => spec_line A B n c cb d (fun i => F i 0) (ok_of ho hr) w h1 h2)
  have CM := Lib.hid (fun w => make_gen (pairs d (fun i => F i 0) n) (pairs d d n) (by omega) (by omega) (by omega) (by omega) w)
  clear hA hB hz ho hr q1 q2 q3 q4
  generalize pairs d (fun i => F i 0) n = P1 at CL CM ⊢
  generalize pairs d d n = P2 at CL CM ⊢
  generalize nm P1 P2 = N at CM ⊢
  generalize dn P1 P2 = D at CM ⊢
  go_enter Try.func16, Try.ntmps16
  go_wp2_with fail
  refine (CD.out _ ((HA.out.below (below_box _ _) (Nat.le_refl _)).more (by simp)) ((HB.out.below (below_box _ _) (Nat.le_refl _)).more (by simp))).mono ?_
  rintro e w1 ⟨rfl, b1⟩
  have HB1 := Lib.hid (below_then (below_box _ _) b1)
  have KZ1 := Lib.hid (blk_keep b1 (heap_alloc_new _ _))
  clear b1
  go_wp2_with fail
  refine (spec_col B n c' 0 F hn (by omega) _ ((HB.out.below HB1.out (Nat.le_refl _)).more HB1.out.size)).mono ?_
  rintro e w2 ⟨A2, cap2, rfl, HO2, b2⟩
  have HB2 := Lib.hid (below_then HB1.out b2)
  have KZ2 := Lib.hid (blk_keep b2 KZ1.out)
  clear b2
  go_wp2_with fail
  refine (CL.out _ _ _ ((HA.out.below HB2.out (Nat.le_refl _)).more HB2.out.size) HO2.out.nums).mono ?_
  rintro e w3 ⟨rfl, b3⟩
  have HB3 := Lib.hid (below_then HB2.out b3)
  have KZ3 := Lib.hid (blk_keep b3 KZ2.out)
  clear b3
  go_wp2_with fail
  refine (CM.out _).mono ?_
  rintro e w4 ⟨rfl, b4⟩
  have HB4 := Lib.hid (below_then HB3.out b4)
  have KZ4 := Lib.hid (blk_keep b4 KZ3.out)
  obtain ⟨z0, z1⟩ := blk2 KZ4.out
  have hfr := blk_free KZ4.out
  clear b4
  go_wp2_with fail
  exact bodyPost_ret (v := .tuple #[.agg #[.int .i64 N, .int .i64 D], .int .i64 0]) (by simp [results, Try.results16, go_sem, z0, z1]) rfl ⟨rfl, (HB4.out.setCell (by simp) _).setCell (by simp) _⟩
set_option maxRecDepth 100000 in
theorem impl_grow (A B : Option Addr) (n c c' : Nat) (d : Nat → Int) (F : Nat → Nat → Int) (hn : n ≤ 1048576) (hz : codeD n d n F 0 = 0) (ho : Okay n F) (hr : Ri n d) (h2 : 2 ≤ n) (w : World) (hA : Nums w w.heap.size A n d) (hB : Ints w w.heap.size 4 B n F) :
    Calls Try.prog 19 #[.slice A n c, .slice B n c'] w (FracAt (nm (pairs d (fun i => F i 0) n) (pairs d d n)) (dn (pairs d (fun i => F i 0) n) (pairs d d n)) 0 w) := by
  have HA := Lib.hid hA
  have HB := Lib.hid hB
  have CD := Lib.hid (fun w h1 h2 => impl_days A B n c n c' d F 0 hn hn w h1 h2)
  rw [hz] at CD
  obtain ⟨q1, q2, q3, q4⟩ := slope_bd ho hr h2
  have CL := Lib.hid (fun w h1 h2 => impl_line A B n c c' d F (ok_of ho hr) w h1 h2)
  have CM := Lib.hid (fun w => low_gen (pairs d (fun i => F i 0) n) (pairs d d n) (by omega) (by omega) (by omega) (by omega) w)
  clear hA hB hz ho hr q1 q2 q3 q4
  generalize pairs d (fun i => F i 0) n = P1 at CL CM ⊢
  generalize pairs d d n = P2 at CL CM ⊢
  generalize nm P1 P2 = N at CM ⊢
  generalize dn P1 P2 = D at CM ⊢
  generalize sm d n = S1 at CL
  generalize sm (fun i => F i 0) n = S2 at CL
  go_enter Try.func19, Try.ntmps19
  go_wp2_with fail
  refine (CD.out _ ((HA.out.below (below_box _ _) (Nat.le_refl _)).more (by simp)) ((HB.out.below (below_box _ _) (Nat.le_refl _)).more (by simp))).mono ?_
  rintro e w1 ⟨rfl, b1⟩
  have HB1 := Lib.hid (below_then (below_box _ _) b1)
  have KZ1 := Lib.hid (blk_keep b1 (heap_alloc_new _ _))
  clear b1
  go_wp2_with fail
  refine (CL.out _ ((HA.out.below HB1.out (Nat.le_refl _)).more HB1.out.size) ((HB.out.below HB1.out (Nat.le_refl _)).more HB1.out.size)).mono ?_
  rintro e w2 ⟨rfl, b2⟩
  have HB2 := Lib.hid (below_then HB1.out b2)
  have KZ2 := Lib.hid (blk_keep b2 KZ1.out)
  clear b2
  have HB3 := Lib.hid (HB2.out.alloc HB2.out.size (.cells #[.int .i64 n, .int .i64 S1, .int .i64 S2, .int .i64 P1, .int .i64 P2] 90))
  have KZ3 := Lib.hid (blk_keep (below_box w2 (.cells #[.int .i64 n, .int .i64 S1, .int .i64 S2, .int .i64 P1, .int .i64 P2] 90)) KZ2.out)
  go_wp2_with fail
  all_goals (try go_quiet ((go_at_call 63; fail)))
  refine (CM.out _).mono ?_
  rintro e w4 ⟨rfl, b4⟩
  have HB4 := Lib.hid (below_then HB3.out b4)
  have KZ4 := Lib.hid (blk_keep b4 KZ3.out)
  obtain ⟨z0, z1⟩ := blk2 KZ4.out
  have hfr := blk_free KZ4.out
  clear b4
  go_wp2_with fail
  exact bodyPost_ret (v := .tuple #[.agg #[.int .i64 N, .int .i64 D], .int .i64 0]) (by simp [results, Try.results19, go_sem, z0, z1]) rfl ⟨rfl, (HB4.out.setCell (by simp) _).setCell (by simp) _⟩
theorem spec_grow_no (A B : Option Addr) (n c m c' : Nat) (d : Nat → Int) (F : Nat → Nat → Int) (hn : n ≤ 1048576) (hm : m ≤ 1048576) (hc : (codeD n d m F 0 != 0) = true) (w : World) (hA : Nums w w.heap.size A n d) (hB : Ints w w.heap.size 4 B m F) :
    Calls Try.prog 16 #[.slice A n c, .slice B m c'] w (FracAt 0 0 (codeD n d m F 0) w) := by
  have HA := Lib.hid hA
  have HB := Lib.hid hB
  have CD := Lib.hid (fun w h1 h2 => spec_days A B n c m c' d F 0 hn hm w h1 h2)
  clear hA hB
  generalize codeD n d m F 0 = cd at hc CD ⊢
  go_enter Try.func16, Try.ntmps16
  go_wp2_with fail
  refine (CD.out _ ((HA.out.below (below_box _ _) (Nat.le_refl _)).more (by simp)) ((HB.out.below (below_box _ _) (Nat.le_refl _)).more (by simp))).mono ?_
  rintro e w1 ⟨rfl, b1⟩
  have HB1 := Lib.hid (below_then (below_box _ _) b1)
  have KZ1 := Lib.hid (blk_keep b1 (heap_alloc_new _ _))
  obtain ⟨z0, z1⟩ := blk2 KZ1.out
  have hfr := blk_free KZ1.out
  clear b1
  go_wp2_with fail
  exact bodyPost_ret (v := .tuple #[.agg #[.int .i64 0, .int .i64 0], .int .i64 cd]) (by simp [results, Try.results16, go_sem, z0, z1]) rfl ⟨rfl, (HB1.out.setCell (by simp) _).setCell (by simp) _⟩
theorem impl_grow_no (A B : Option Addr) (n c m c' : Nat) (d : Nat → Int) (F : Nat → Nat → Int) (hn : n ≤ 1048576) (hm : m ≤ 1048576) (hc : (codeD n d m F 0 != 0) = true) (w : World) (hA : Nums w w.heap.size A n d) (hB : Ints w w.heap.size 4 B m F) :
    Calls Try.prog 19 #[.slice A n c, .slice B m c'] w (FracAt 0 0 (codeD n d m F 0) w) := by
  have HA := Lib.hid hA
  have HB := Lib.hid hB
  have CD := Lib.hid (fun w h1 h2 => impl_days A B n c m c' d F 0 hn hm w h1 h2)
  clear hA hB
  generalize codeD n d m F 0 = cd at hc CD ⊢
  go_enter Try.func19, Try.ntmps19
  go_wp2_with fail
  refine (CD.out _ ((HA.out.below (below_box _ _) (Nat.le_refl _)).more (by simp)) ((HB.out.below (below_box _ _) (Nat.le_refl _)).more (by simp))).mono ?_
  rintro e w1 ⟨rfl, b1⟩
  have HB1 := Lib.hid (below_then (below_box _ _) b1)
  have KZ1 := Lib.hid (blk_keep b1 (heap_alloc_new _ _))
  obtain ⟨z0, z1⟩ := blk2 KZ1.out
  have hfr := blk_free KZ1.out
  clear b1
  go_wp2_with fail
  exact bodyPost_ret (v := .tuple #[.agg #[.int .i64 0, .int .i64 0], .int .i64 cd]) (by simp [results, Try.results19, go_sem, z0, z1]) rfl ⟨rfl, (HB1.out.setCell (by simp) _).setCell (by simp) _⟩
end Go.Proofs.Ytpmmfalpcooenab.Gw
