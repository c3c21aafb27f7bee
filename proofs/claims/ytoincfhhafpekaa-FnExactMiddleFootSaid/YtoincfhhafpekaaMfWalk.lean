/- Both functions MiddleFoot. -/
import Derived.Test.YtoincfhhafpekaaMeLib
namespace Go.Proofs.Ytoincfhhafpekaa.Mf
open Go.RowKit Ft Fs Ld Is Fc Cl Ms Md Me

set_option maxRecDepth 100000 in
theorem spec_yes (A : Option Addr) (n c : Nat) (F : Nat → Nat → Int) (hn : n ≤ 1048576) (h0 : 0 < n) (ho : Okay n F) (w : World) (hA : Ints w w.heap.size 4 A n F) :
    Calls Try.prog 16 #[.slice A n c] w fun e w' => e = .returned (.tuple #[.agg #[.int .i64 (md n F 0), .int .i64 (md n F 1), .int .i64 (md n F 2), .int .i64 (md n F 3)], .int .i64 0]) ∧ Below w.heap.size w w' := by
  have HA := Lib.hid hA
  have HC : Hid (codeOf n F 0 = 0) := Lib.hid (by unfold codeOf; rw [if_neg (by simpa using ho), if_neg (by omega), if_neg (by omega)])
  clear hA ho
  go_enter Try.func16, Try.ntmps16
  go_wp2_with fail
  refine (spec_code A n c F 0 hn _ ((HA.out.below (below_box _ _) (Nat.le_refl _)).more (by simp))).mono ?_
  rw [HC.out]
  rintro e w1 ⟨rfl, b1⟩
  have HB1 := Lib.hid (below_then (below_box _ _) b1)
  have KZ1 := Lib.hid (blk_keep b1 (heap_alloc_new _ _))
  have HA1 := Lib.hid ((HA.out.below HB1.out (Nat.le_refl _)).more HB1.out.size)
  clear b1
  go_wp2_with fail
  refine (spec_mid A n c F hn h0 _ HA1.out).mono ?_
  rintro e w6 ⟨rfl, b6⟩
  have KZ6 := Lib.hid (blk_keep b6 KZ1.out)
  have HB6 := Lib.hid (below_then HB1.out b6)
  obtain ⟨z0, z1, z2, z3⟩ := blk4 KZ6.out
  have hfr := blk_free KZ6.out
  clear b6
  go_wp2_with fail
  exact bodyPost_ret (v := .tuple #[.agg #[.int .i64 (md n F 0), .int .i64 (md n F 1), .int .i64 (md n F 2), .int .i64 (md n F 3)], .int .i64 0]) (by simp [results, Try.results16, go_sem, z0, z1, z2, z3]) rfl
    ⟨rfl, (((HB6.out.setCell (by simp) _).setCell (by simp) _).setCell (by simp) _).setCell (by simp) _⟩

theorem spec_no (A : Option Addr) (n c : Nat) (F : Nat → Nat → Int) (hn : n ≤ 1048576) (hc : (codeOf n F 0 != 0) = true) (w : World) (hA : Ints w w.heap.size 4 A n F) :
    Calls Try.prog 16 #[.slice A n c] w fun e w' => e = .returned (.tuple #[.agg #[.int .i64 0, .int .i64 0, .int .i64 0, .int .i64 0], .int .i64 (codeOf n F 0)]) ∧ Below w.heap.size w w' := by
  have HA := Lib.hid hA
  have C := Lib.hid (fun w h => spec_code A n c F 0 hn w h)
  clear hA
  generalize codeOf n F 0 = cd at hc C ⊢
  go_enter Try.func16, Try.ntmps16
  go_wp2_with fail
  refine (C.out _ ((HA.out.below (below_box _ _) (Nat.le_refl _)).more (by simp))).mono ?_
  rintro e w1 ⟨rfl, b1⟩
  have HB1 := Lib.hid (below_then (below_box _ _) b1)
  have KZ1 := Lib.hid (blk_keep b1 (heap_alloc_new _ _))
  obtain ⟨z0, z1, z2, z3⟩ := blk4 KZ1.out
  have hfr := blk_free KZ1.out
  clear b1
  go_wp2_with fail
  exact bodyPost_ret (v := .tuple #[.agg #[.int .i64 0, .int .i64 0, .int .i64 0, .int .i64 0], .int .i64 cd]) (by simp [results, Try.results16, go_sem, z0, z1, z2, z3]) rfl
    ⟨rfl, (((HB1.out.setCell (by simp) _).setCell (by simp) _).setCell (by simp) _).setCell (by simp) _⟩

set_option maxRecDepth 100000 in
theorem impl_yes (A : Option Addr) (n c : Nat) (F : Nat → Nat → Int) (hn : n ≤ 1048576) (h0 : 0 < n) (ho : Okay n F) (w : World) (hA : Ints w w.heap.size 4 A n F) :
    Calls Try.prog 18 #[.slice A n c] w fun e w' => e = .returned (.tuple #[.agg #[.int .i64 (md n F 0), .int .i64 (md n F 1), .int .i64 (md n F 2), .int .i64 (md n F 3)], .int .i64 0]) ∧ Below w.heap.size w w' := by
  have HA := Lib.hid hA
  have HC : Hid (codeOf n F 0 = 0) := Lib.hid (by unfold codeOf; rw [if_neg (by simpa using ho), if_neg (by omega), if_neg (by omega)])
  clear hA ho
  go_enter Try.func18, Try.ntmps18
  go_wp2_with fail
  refine (impl_code A n c F 0 hn _ ((HA.out.below (below_box _ _) (Nat.le_refl _)).more (by simp))).mono ?_
  rw [HC.out]
  rintro e w1 ⟨rfl, b1⟩
  have HB1 := Lib.hid (below_then (below_box _ _) b1)
  have KZ1 := Lib.hid (blk_keep b1 (heap_alloc_new _ _))
  have HA1 := Lib.hid ((HA.out.below HB1.out (Nat.le_refl _)).more HB1.out.size)
  clear b1
  go_wp2_with fail
  refine (impl_mid A n c F hn h0 _ HA1.out).mono ?_
  rintro e w6 ⟨rfl, b6⟩
  have KZ6 := Lib.hid (blk_keep b6 KZ1.out)
  have HB6 := Lib.hid (below_then HB1.out b6)
  obtain ⟨z0, z1, z2, z3⟩ := blk4 KZ6.out
  have hfr := blk_free KZ6.out
  clear b6
  go_wp2_with fail
  exact bodyPost_ret (v := .tuple #[.agg #[.int .i64 (md n F 0), .int .i64 (md n F 1), .int .i64 (md n F 2), .int .i64 (md n F 3)], .int .i64 0]) (by simp [results, Try.results18, go_sem, z0, z1, z2, z3]) rfl
    ⟨rfl, (((HB6.out.setCell (by simp) _).setCell (by simp) _).setCell (by simp) _).setCell (by simp) _⟩

theorem impl_no (A : Option Addr) (n c : Nat) (F : Nat → Nat → Int) (hn : n ≤ 1048576) (hc : (codeOf n F 0 != 0) = true) (w : World) (hA : Ints w w.heap.size 4 A n F) :
    Calls Try.prog 18 #[.slice A n c] w fun e w' => e = .returned (.tuple #[.agg #[.int .i64 0, .int .i64 0, .int .i64 0, .int .i64 0], .int .i64 (codeOf n F 0)]) ∧ Below w.heap.size w w' := by
  have HA := Lib.hid hA
  have C := Lib.hid (fun w h => impl_code A n c F 0 hn w h)
  clear hA
  generalize codeOf n F 0 = cd at hc C ⊢
  go_enter Try.func18, Try.ntmps18
  go_wp2_with fail
  refine (C.out _ ((HA.out.below (below_box _ _) (Nat.le_refl _)).more (by simp))).mono ?_
  rintro e w1 ⟨rfl, b1⟩
  have HB1 := Lib.hid (below_then (below_box _ _) b1)
  have KZ1 := Lib.hid (blk_keep b1 (heap_alloc_new _ _))
  obtain ⟨z0, z1, z2, z3⟩ := blk4 KZ1.out
  have hfr := blk_free KZ1.out
  clear b1
  go_wp2_with fail
  exact bodyPost_ret (v := .tuple #[.agg #[.int .i64 0, .int .i64 0, .int .i64 0, .int .i64 0], .int .i64 cd]) (by simp [results, Try.results18, go_sem, z0, z1, z2, z3]) rfl
    ⟨rfl, (((HB1.out.setCell (by simp) _).setCell (by simp) _).setCell (by simp) _).setCell (by simp) _⟩
end Go.Proofs.Ytoincfhhafpekaa.Mf
