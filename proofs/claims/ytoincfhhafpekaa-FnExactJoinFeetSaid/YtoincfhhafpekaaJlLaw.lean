/- The walk of the law of JoinFeet. -/
import Derived.Test.YtoincfhhafpekaaJmLib
namespace Go.Proofs.Ytoincfhhafpekaa.Jl
open Go.RowKit Ft Fs Ld Is Fc Cl Ms Md Me Fl Jn

set_option maxRecDepth 100000 in
/-- Where both functions answer alike, the law returns true. -/
theorem core (A : Option Addr) (n c : Nat) (F : Nat → Nat → Int) (hn : n ≤ 1048576) (m : Nat → Int) (cd most : Int) (w : World) (hA : Ints w w.heap.size 4 A n F)
    (CS : Hid (∀ A c w, Ints w w.heap.size 4 A n F → Calls Try.prog 27 #[.slice A n c, .int .i64 most] w fun e w' => e = .returned (.tuple #[.agg #[.int .i64 (m 0), .int .i64 (m 1), .int .i64 (m 2), .int .i64 (m 3)], .int .i64 cd]) ∧ Below w.heap.size w w'))
    (CI : Hid (∀ A c w, Ints w w.heap.size 4 A n F → Calls Try.prog 28 #[.slice A n c, .int .i64 most] w fun e w' => e = .returned (.tuple #[.agg #[.int .i64 (m 0), .int .i64 (m 1), .int .i64 (m 2), .int .i64 (m 3)], .int .i64 cd]) ∧ Below w.heap.size w w')) :
    Calls Try.prog 5 #[.slice A n c, .int .i64 most] w fun e w' => e = .returned (.bool true) ∧ Below w.heap.size w w' := by
  have HA := Lib.hid hA
  clear hA
  go_enter Try.func5, Try.ntmps5
  go_wp2_with fail
  refine (sz_small A n c hn _).mono ?_
  rintro e w' ⟨rfl, rfl⟩
  go_wp2_with fail
  refine (to_feet A n c F hn _ HA.out).mono ?_
  rintro e w1 ⟨g1, rfl, hg1, hl1, b1, hc1⟩
  have HI1 := Lib.hid (HA.out.of_copy hl1 hc1)
  have HB1 := Lib.hid b1
  clear hc1 b1 hg1 hl1
  go_wp2_with fail
  refine (CS.out _ _ _ HI1.out).mono ?_
  rintro e w2 ⟨rfl, b2⟩
  have HB2 := Lib.hid (below_then HB1.out b2)
  clear b2
  have KW2 : Hid ((w2.alloc (.cells #[.int .i64 (m 0), .int .i64 (m 1), .int .i64 (m 2), .int .i64 (m 3)] 25)).heap[w2.heap.size]? = some (.cells #[.int .i64 (m 0), .int .i64 (m 1), .int .i64 (m 2), .int .i64 (m 3)] 25 (0, 0))) := Lib.hid (heap_alloc_new _ _)
  have HB2' := Lib.hid (HB2.out.alloc HB2.out.size (.cells #[.int .i64 (m 0), .int .i64 (m 1), .int .i64 (m 2), .int .i64 (m 3)] 25))
  go_wp2_with fail
  generalize w2.alloc (.cells #[.int .i64 (m 0), .int .i64 (m 1), .int .i64 (m 2), .int .i64 (m 3)] 25) = w2' at KW2 HB2' ⊢
  refine (to_feet A n c F hn _ ((HA.out.below HB2'.out (Nat.le_refl _)).more HB2'.out.size)).mono ?_
  rintro e w3 ⟨g3, rfl, hg3, hl3, b3, hc3⟩
  have HI3 := Lib.hid (HA.out.of_copy hl3 hc3)
  have HB3 := Lib.hid (below_then HB2'.out b3)
  have KW3 := Lib.hid (blk_keep b3 KW2.out)
  clear hc3 b3 hg3 hl3
  go_wp2_with fail
  refine (CI.out _ _ _ HI3.out).mono ?_
  rintro e w4 ⟨rfl, b4⟩
  have HB4 := Lib.hid (below_then HB3.out b4)
  have KW4 := Lib.hid (blk_keep b4 KW3.out)
  have HI4 := Lib.hid ((HI3.out.below b4 (Nat.le_refl _)).more b4.size)
  have hl4 := lt_of_heap KW4.out
  clear b4
  obtain ⟨p0, p1, p2, p3⟩ := blk4 KW4.out
  go_wp2_with fail
  refine (eq_same m _).mono ?_
  rintro e w5 ⟨rfl, b5⟩
  have HB5 := Lib.hid (below_then (HB4.out.alloc HB4.out.size _) b5)
  have HI5 := Lib.hid ((HI4.out.below ((below_box w4 (.cells #[.int .i64 (m 0), .int .i64 (m 1), .int .i64 (m 2), .int .i64 (m 3)] 25)).trans (b5.mono (by simp))) (Nat.le_refl _)).more (B' := w5.heap.size) (by have := b5.size; simp at this; omega))
  clear b5 p0 p1 p2 p3
  go_wp2_with fail
  refine (to_feet A n c F hn _ ((HA.out.below HB5.out (Nat.le_refl _)).more HB5.out.size)).mono ?_
  rintro e w6 ⟨g6, rfl, hg6, hl6, b6, hc6⟩
  have HI6 := Lib.hid (HA.out.of_copy hl6 hc6)
  have HB6 := Lib.hid (below_then HB5.out b6)
  have HI7 := Lib.hid ((HI5.out.below b6 (Nat.le_refl _)).more b6.size)
  clear hc6 b6 hg6 hl6
  go_wp2_with fail
  refine (eq_feet _ _ n n n F hn _ HI7.out HI6.out).mono ?_
  rintro e w7 ⟨rfl, b7⟩
  have HB7 := Lib.hid (below_then HB6.out b7)
  clear b7
  go_wp2_with fail
  go_ret
  exact ⟨rfl, HB7.out⟩

theorem code_zero {n : Nat} {F : Nat → Nat → Int} {most : Int} (h : (codeOf n F most != 0) = false) : Okay n F ∧ 0 < n ∧ codeOf n F most = 0 := by
  have h0 : codeOf n F most = 0 := by simpa using h
  refine ⟨?_, ?_, h0⟩
  · by_cases ho : Okay n F
    · exact ho
    · unfold codeOf at h0
      rw [if_pos (by simpa using ho)] at h0
      cases h0
  · by_cases hn : n = 0
    · unfold codeOf at h0
      by_cases ho : Okay n F
      · rw [if_neg (by simpa using ho)] at h0
        by_cases hm : 0 ≤ most ∧ most ≤ 5000
        · rw [if_neg (by simpa using hm), if_pos hn] at h0
          cases h0
        · rw [if_pos hm] at h0
          cases h0
      · rw [if_pos (by simpa using ho)] at h0
        cases h0
    · omega

/-- The law. -/
theorem law (A : Option Addr) (n c : Nat) (F : Nat → Nat → Int) (most : Int) (w : World) (hA : Ints w w.heap.size 4 A n F) (_ : (Lit.int .i64 most).wf = true) : Calls Try.prog 5 #[.slice A n c, .int .i64 most] w fun e w' => e = .returned (.bool true) ∧ Below w.heap.size w w' := by
  by_cases hbig : 1048576 < n
  · have hm := hA.1
    clear hA
    go_enter Try.func5, Try.ntmps5
    go_wp2_with fail
    refine (sz_big A n c hbig hm _).mono ?_
    rintro e w' ⟨rfl, rfl⟩
    go_wp2_with fail
    go_ret
    exact ⟨rfl, Below.refl _ _⟩
  have hn : n ≤ 1048576 := by omega
  cases hc : (codeOf n F most != 0)
  · obtain ⟨ho, h0, hz⟩ := code_zero hc
    exact core A n c F hn (jm n F most) (jc n F most) most w hA (Lib.hid fun A c w h => spec_yes A n c F most hn hz h0 ho w h) (Lib.hid fun A c w h => impl_yes A n c F most hn hz h0 ho w h)
  · exact core A n c F hn (fun _ => 0) (codeOf n F most) most w hA (Lib.hid fun A c w h => spec_no A n c F most hn hc w h) (Lib.hid fun A c w h => impl_no A n c F most hn hc w h)
end Go.Proofs.Ytoincfhhafpekaa.Jl
