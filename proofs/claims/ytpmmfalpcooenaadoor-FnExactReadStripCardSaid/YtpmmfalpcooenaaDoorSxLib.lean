/- StripText: spec and program. -/
import Derived.Test.YtpmmfalpcooenaaDoorErLib
import Derived.Test.YtpmmfalpcooenaaDoorStxLib
import Derived.Deep.RegionHeld3
import Derived.RegionTactic
namespace Go.Proofs.YtpmmfalpcooenaaDoor.Sx
set_option linter.unusedVariables false
open Go.RowKit Go.Lib Dc Ds Tb Bu Stv Er Qb Ge Ft

/-- The marks behind the numbers. -/
def sm (k : Nat) : List UInt8 := [([43] : List UInt8), [40], [44], [41]].getD k []
/-- The first k numbers, each with its mark. -/
def sxP (a b c d : Int) : Nat → List UInt8
  | 0 => []
  | k + 1 => sxP a b c d k ++ itoa ([a, b, c, d].getD k 0) ++ sm k
def sxL (a b c d : Int) : List UInt8 := itoa a ++ [43] ++ itoa b ++ [40] ++ itoa c ++ [44] ++ itoa d ++ [41]
def sxT (a b c d : Int) : ByteArray := if stB a b c d then ⟨(sxL a b c d).toArray⟩ else ⟨#[]⟩
theorem sx_four (a b c d : Int) : sxP a b c d 4 = sxL a b c d := by simp [sxP, sxL, sm]
theorem st_is {a b c d : Int} (h : stB a b c d = true) : (1 ≤ a ∧ a ≤ 5000) ∧ (0 ≤ b ∧ b ≤ 200) ∧ (0 ≤ c ∧ c ≤ 200) ∧ (0 ≤ d ∧ d ≤ 200) := by
  unfold stB at h
  simp only [Bool.and_eq_true] at h
  obtain ⟨⟨⟨h1, h2⟩, h3⟩, h4⟩ := h
  exact ⟨Ba.in_of h1, Ba.in_of h2, Ba.in_of h3, Ba.in_of h4⟩
theorem app_eq (a b : List UInt8) : (⟨a.toArray⟩ ++ ⟨b.toArray⟩ : ByteArray) = ⟨(a ++ b).toArray⟩ := by
  apply ByteArray.ext
  simp
theorem len_le (n : Int) (h0 : 0 ≤ n) (h1 : n ≤ 5000) : (itoa n).length ≤ 21 := itoa_length_le n (by omega) (by omega)
structure VT (w : World) : Prop where
  tab : Tab w
  mks : ∀ k, k < 4 → w.cell? ⟨0, k, none⟩ = some (.string ⟨(sm k).toArray⟩)
  out : Sen w 3
theorem VT.below {w w' : World} (h : VT w) (hb : Below w.heap.size w w') : VT w' := ⟨h.tab.below hb, fun k hk => (hb.cell (p := ⟨_, k, none⟩) (World.block_lt_of_cell? w _ (h.mks k hk))).trans (h.mks k hk), h.out.below hb⟩
set_option maxRecDepth 100000 in
set_option maxHeartbeats 2000000 in
theorem spec_tx (a b c d : Int) (g : Nat) (r : stB a b c d = true) (w : World) (h0 : w.cell? ⟨g, 0, none⟩ = some (.int .i64 a)) (h1 : w.cell? ⟨g, 1, none⟩ = some (.int .i64 b)) (h2 : w.cell? ⟨g, 2, none⟩ = some (.int .i64 c)) (h3 : w.cell? ⟨g, 3, none⟩ = some (.int .i64 d)) :
    Calls Tryd.prog 71 #[.pointer (some ⟨g, 0, none⟩)] w fun e w' => e = .returned (.string ⟨(sxL a b c d).toArray⟩) ∧ Below w.heap.size w w' := by
  obtain ⟨⟨a0, a1⟩, ⟨b0, b1⟩, ⟨c0, c1⟩, ⟨d0, d1⟩⟩ := st_is r
  have D0 := Lib.hid fun w => dec_any a (by omega) (by omega) w
  have D1 := Lib.hid fun w => dec_any b (by omega) (by omega) w
  have D2 := Lib.hid fun w => dec_any c (by omega) (by omega) w
  have D3 := Lib.hid fun w => dec_any d (by omega) (by omega) w
  have z0 : (⟨(itoa a).toArray⟩ : ByteArray).size ≤ 21 := len_le a (by omega) (by omega)
  have z1 : (⟨(itoa b).toArray⟩ : ByteArray).size ≤ 21 := len_le b (by omega) (by omega)
  have z2 : (⟨(itoa c).toArray⟩ : ByteArray).size ≤ 21 := len_le c (by omega) (by omega)
  have z3 : (⟨(itoa d).toArray⟩ : ByteArray).size ≤ 21 := len_le d (by omega) (by omega)
  have HE : Hid ((⟨(sxL a b c d).toArray⟩ : ByteArray) = ⟨(itoa a).toArray⟩ ++ ⟨#[43]⟩ ++ ⟨(itoa b).toArray⟩ ++ ⟨#[40]⟩ ++ ⟨(itoa c).toArray⟩ ++ ⟨#[44]⟩ ++ ⟨(itoa d).toArray⟩ ++ ⟨#[41]⟩) := Lib.hid (by
    rw [show (⟨#[43]⟩ : ByteArray) = ⟨([43] : List UInt8).toArray⟩ from rfl, show (⟨#[40]⟩ : ByteArray) = ⟨([40] : List UInt8).toArray⟩ from rfl, show (⟨#[44]⟩ : ByteArray) = ⟨([44] : List UInt8).toArray⟩ from rfl, show (⟨#[41]⟩ : ByteArray) = ⟨([41] : List UInt8).toArray⟩ from rfl]
    simp only [app_eq]
    rfl)
  generalize (⟨(sxL a b c d).toArray⟩ : ByteArray) = R at HE ⊢
  generalize (⟨(itoa a).toArray⟩ : ByteArray) = s0 at D0 z0 HE
  generalize (⟨(itoa b).toArray⟩ : ByteArray) = s1 at D1 z1 HE
  generalize (⟨(itoa c).toArray⟩ : ByteArray) = s2 at D2 z2 HE
  generalize (⟨(itoa d).toArray⟩ : ByteArray) = s3 at D3 z3 HE
  have n0 : ¬ 9223372036854775807 < s0.size + 1 := by omega
  have m0 : ¬ 9223372036854775807 ≤ s0.size := by omega
  have n1 : ¬ 9223372036854775807 < s0.size + 1 + s1.size := by omega
  have n2 : ¬ 9223372036854775807 < s0.size + 1 + s1.size + 1 := by omega
  have m2 : ¬ 9223372036854775807 ≤ s0.size + 1 + s1.size := by omega
  have n3 : ¬ 9223372036854775807 < s0.size + 1 + s1.size + 1 + s2.size := by omega
  have n4 : ¬ 9223372036854775807 < s0.size + 1 + s1.size + 1 + s2.size + 1 := by omega
  have m4 : ¬ 9223372036854775807 ≤ s0.size + 1 + s1.size + 1 + s2.size := by omega
  have n5 : ¬ 9223372036854775807 < s0.size + 1 + s1.size + 1 + s2.size + 1 + s3.size := by omega
  have n6 : ¬ 9223372036854775807 < s0.size + 1 + s1.size + 1 + s2.size + 1 + s3.size + 1 := by omega
  have m6 : ¬ 9223372036854775807 ≤ s0.size + 1 + s1.size + 1 + s2.size + 1 + s3.size := by omega
  have HB := Lib.hid (Below.refl w.heap.size w)
  have x0 := bey_cell h0
  have x1 := bey_cell h1
  have x2 := bey_cell h2
  have x3 := bey_cell h3
  clear a0 a1 b0 b1 c0 c1 d0 d1 r h0 h1 h2 h3
  go_enter Tryd.func71, Tryd.ntmps71
  go_wp2_with fail
  refine wp_region_below (by kernel_rfl) (by kernel_rfl) ?_
  repeat (go_big_quiet_step ((first | (go_at_call 90; with_reducible exact bey_of _ (D0.out _)) | (go_at_call 90; with_reducible exact bey_of _ (D1.out _)) | (go_at_call 90; with_reducible exact bey_of _ (D2.out _)) | (go_at_call 90; with_reducible exact bey_of _ (D3.out _)))))
  refine wpQuiet_nil ?_
  rintro _ ⟨pq, rfl⟩
  have HQ := Lib.hid (below_then HB.out pq.h)
  generalize pq.to = wq at HQ ⊢
  go_wp2_with fail
  go_ret
  exact ⟨ret_str HE.out.symm, HQ.out⟩
theorem spec_text (a b c d : Int) (w : World) : Calls Tryd.prog 41 #[Str.reV a b c d] w fun e w' => e = .returned (.string (sxT a b c d)) ∧ Below w.heap.size w w' := by
  have K := heap_alloc_new w (Str.reC a b c d 54)
  have HB := Lib.hid (below_box w (Str.reC a b c d 54))
  have C := Lib.hid fun W (h0 : W.cell? ⟨w.heap.size, 0, none⟩ = _) h1 h2 h3 => one a b c d w.heap.size 0 W h0 h1 h2 h3
  have T := Lib.hid fun r => spec_tx a b c d w.heap.size r
  have HE0 : Hid (stB a b c d = false → sxT a b c d = ⟨#[]⟩) := Lib.hid fun h => by unfold sxT; rw [h]; rfl
  have HE1 : Hid (stB a b c d = true → sxT a b c d = ⟨(sxL a b c d).toArray⟩) := Lib.hid fun h => by unfold sxT; rw [h]; rfl
  generalize sxT a b c d = R at HE0 HE1 ⊢
  generalize (⟨(sxL a b c d).toArray⟩ : ByteArray) = t at T HE1
  generalize stB a b c d = r at C T HE0 HE1
  unfold Str.reV
  go_enter Tryd.func41, Tryd.ntmps41
  go_wp2_with fail
  generalize w.alloc (Str.reC a b c d 54) = W at K HB ⊢
  have x0 : W.cell? ⟨w.heap.size, 0, none⟩ = some (.int .i64 a) := cell_of_row _ _ _ _ _ _ K
  have x1 : W.cell? ⟨w.heap.size, 1, none⟩ = some (.int .i64 b) := cell_of_row _ _ _ _ _ _ K
  have x2 : W.cell? ⟨w.heap.size, 2, none⟩ = some (.int .i64 c) := cell_of_row _ _ _ _ _ _ K
  have x3 : W.cell? ⟨w.heap.size, 3, none⟩ = some (.int .i64 d) := cell_of_row _ _ _ _ _ _ K
  refine (C.out _ x0 x1 x2 x3).mono ?_
  rintro e w1 ⟨rfl, rfl⟩
  cases r
  · have HE := Lib.hid (HE0.out rfl)
    clear x0 x1 x2 x3
    go_wp2_with fail
    go_ret
    exact ⟨ret_str HE.out.symm, HB.out⟩
  · have HE := Lib.hid (HE1.out rfl)
    have T1 := Lib.hid (T.out rfl _ x0 x1 x2 x3)
    clear x0 x1 x2 x3 T
    go_wp2_with fail
    refine T1.out.mono ?_
    rintro e w2 ⟨rfl, b2⟩
    have HB2 := Lib.hid (below_then HB.out b2)
    clear b2 T1
    go_wp2_with fail
    go_ret
    exact ⟨ret_str HE.out.symm, HB2.out⟩
theorem ix0 (a b c d : Int) (w : World) : (Instr.index 92 (.agg #[.int .i64 a, .int .i64 b, .int .i64 c, .int .i64 d]) (.int .i64 0)).run Tryd.prog w = .ok (.int .i64 a) w := by simp [Instr.index, run_underlying Tryd.underlying92, asIntOf, go_sem]
theorem ix1 (a b c d : Int) (w : World) : (Instr.index 92 (.agg #[.int .i64 a, .int .i64 b, .int .i64 c, .int .i64 d]) (.int .i64 1)).run Tryd.prog w = .ok (.int .i64 b) w := by simp [Instr.index, run_underlying Tryd.underlying92, asIntOf, go_sem]
theorem ix2 (a b c d : Int) (w : World) : (Instr.index 92 (.agg #[.int .i64 a, .int .i64 b, .int .i64 c, .int .i64 d]) (.int .i64 2)).run Tryd.prog w = .ok (.int .i64 c) w := by simp [Instr.index, run_underlying Tryd.underlying92, asIntOf, go_sem]
theorem ix3 (a b c d : Int) (w : World) : (Instr.index 92 (.agg #[.int .i64 a, .int .i64 b, .int .i64 c, .int .i64 d]) (.int .i64 3)).run Tryd.prog w = .ok (.int .i64 d) w := by simp [Instr.index, run_underlying Tryd.underlying92, asIntOf, go_sem]
theorem impl_no (a b c d : Int) (r : stB a b c d = false) (w : World) (hV : VT w) : Calls Tryd.prog 43 #[Str.reV a b c d] w fun e w' => e = .returned (.string ⟨#[]⟩) ∧ Below w.heap.size w w' := by
  have HB := Lib.hid (below_box w (Str.reC a b c d 54))
  have C := Lib.hid (check_any a b c d (w.alloc (Str.reC a b c d 54)) (hV.out.below HB.out))
  rw [r] at C
  clear r hV
  unfold Str.reV at C ⊢
  go_enter Tryd.func43, Tryd.ntmps43
  go_wp2_with fail
  refine C.out.mono ?_
  rintro e w1 ⟨⟨x, rfl, hx⟩, b1⟩
  have HB1 := Lib.hid (below_then HB.out b1)
  rcases hx with ⟨h, _⟩ | ⟨_, u, v, rfl⟩
  · cases h
  clear b1 C
  go_wp2_with fail
  go_ret
  exact ⟨rfl, HB1.out⟩
set_option maxRecDepth 100000 in
set_option maxHeartbeats 2000000 in
theorem impl_yes (a b c d : Int) (r : stB a b c d = true) (w : World) (hV : VT w) : Calls Tryd.prog 43 #[Str.reV a b c d] w fun e w' => e = .returned (.string ⟨(sxL a b c d).toArray⟩) ∧ Below w.heap.size w w' := by
  have HV := Lib.hid hV
  have HB := Lib.hid (below_box w (Str.reC a b c d 54))
  have K := Lib.hid (heap_alloc_new w (Str.reC a b c d 54))
  have C := Lib.hid (check_any a b c d (w.alloc (Str.reC a b c d 54)) (hV.out.below HB.out))
  rw [r] at C
  obtain ⟨⟨a0, a1⟩, ⟨b0, b1⟩, ⟨c0, c1⟩, ⟨d0, d1⟩⟩ := st_is r
  have D0 : Hid (∀ (w : World) (ht : Tab w), Calls Tryd.prog 74 #[.int .i64 a] w fun e w' => e = .returned (.string ⟨(itoa a).toArray⟩) ∧ Below w.heap.size w w') := Lib.hid fun w ht => idec a (by omega) (by omega) w ht
  have L0 := len_le a (by omega) (by omega)
  have S0 : Hid (byteCells (sxP a b c d 0) ++ strCells ⟨(itoa a).toArray⟩ ++ strCells ⟨#[43]⟩ = byteCells (sxP a b c d 1)) := Lib.hid (by rw [Stx.cells_text]; exact Stx.cells_text _ [43])
  have M0 : Hid (∀ w, VT w → w.cell? ⟨0, 0, none⟩ = some (.string ⟨#[43]⟩)) := Lib.hid fun w h => h.mks 0 (by decide)
  have D1 : Hid (∀ (w : World) (ht : Tab w), Calls Tryd.prog 74 #[.int .i64 b] w fun e w' => e = .returned (.string ⟨(itoa b).toArray⟩) ∧ Below w.heap.size w w') := Lib.hid fun w ht => idec b (by omega) (by omega) w ht
  have L1 := len_le b (by omega) (by omega)
  have S1 : Hid (byteCells (sxP a b c d 1) ++ strCells ⟨(itoa b).toArray⟩ ++ strCells ⟨#[40]⟩ = byteCells (sxP a b c d 2)) := Lib.hid (by rw [Stx.cells_text]; exact Stx.cells_text _ [40])
  have M1 : Hid (∀ w, VT w → w.cell? ⟨0, 1, none⟩ = some (.string ⟨#[40]⟩)) := Lib.hid fun w h => h.mks 1 (by decide)
  have D2 : Hid (∀ (w : World) (ht : Tab w), Calls Tryd.prog 74 #[.int .i64 c] w fun e w' => e = .returned (.string ⟨(itoa c).toArray⟩) ∧ Below w.heap.size w w') := Lib.hid fun w ht => idec c (by omega) (by omega) w ht
  have L2 := len_le c (by omega) (by omega)
  have S2 : Hid (byteCells (sxP a b c d 2) ++ strCells ⟨(itoa c).toArray⟩ ++ strCells ⟨#[44]⟩ = byteCells (sxP a b c d 3)) := Lib.hid (by rw [Stx.cells_text]; exact Stx.cells_text _ [44])
  have M2 : Hid (∀ w, VT w → w.cell? ⟨0, 2, none⟩ = some (.string ⟨#[44]⟩)) := Lib.hid fun w h => h.mks 2 (by decide)
  have D3 : Hid (∀ (w : World) (ht : Tab w), Calls Tryd.prog 74 #[.int .i64 d] w fun e w' => e = .returned (.string ⟨(itoa d).toArray⟩) ∧ Below w.heap.size w w') := Lib.hid fun w ht => idec d (by omega) (by omega) w ht
  have L3 := len_le d (by omega) (by omega)
  have S3 : Hid (byteCells (sxP a b c d 3) ++ strCells ⟨(itoa d).toArray⟩ ++ strCells ⟨#[41]⟩ = byteCells (sxP a b c d 4)) := Lib.hid (by rw [Stx.cells_text]; exact Stx.cells_text _ [41])
  have M3 : Hid (∀ w, VT w → w.cell? ⟨0, 3, none⟩ = some (.string ⟨#[41]⟩)) := Lib.hid fun w h => h.mks 3 (by decide)
  have Z : Hid ((sxP a b c d 0).length = 0 ∧ (sxP a b c d 1).length ≤ 22 ∧ (sxP a b c d 2).length ≤ 44 ∧ (sxP a b c d 3).length ≤ 66) := Lib.hid (by
    refine ⟨rfl, ?_, ?_, ?_⟩ <;> (simp [sxP, sm]; omega))
  have P0 : Hid (sxP a b c d 0 = []) := Lib.hid rfl
  have P4 := Lib.hid (sx_four a b c d)
  generalize sxL a b c d = R at P4 ⊢
  generalize sxP a b c d = Q at Z P0 P4 S0 S1 S2 S3
  generalize itoa a = t0 at D0 L0 S0
  generalize itoa b = t1 at D1 L1 S1
  generalize itoa c = t2 at D2 L2 S2
  generalize itoa d = t3 at D3 L3 S3
  clear r hV a0 a1 b0 b1 c0 c1 d0 d1
  unfold Str.reV at C ⊢
  go_enter Tryd.func43, Tryd.ntmps43
  go_wp2_with fail
  refine C.out.mono ?_
  rintro e w1 ⟨⟨x, rfl, hx⟩, bb⟩
  have HB1 := Lib.hid (below_then HB.out bb)
  have K1 := blk_keep bb K.out
  rcases hx with ⟨_, rfl⟩ | ⟨h, _⟩
  rotate_left
  · cases h
  clear bb C HB K
  have V1 := Lib.hid (HV.out.below HB1.out)
  clear HV
  have BA : Hid (At w1.heap.size w1.heap.size (.pointer none) (byteCells (Q 0)) (w1.alloc (.cells #[.pointer none, .slice none 0 0] 91))) := Lib.hid (by
    rw [P0.out]
    exact ⟨Nat.le_refl _, .slice none 0 0, Ba.blk_new _ _, World.ownsRowF_of (World.ownsRow_nil _ _ _ _), by simp [Value.ownBlock]⟩)
  have B0 := Lib.hid (below_box w1 (.cells #[.pointer none, .slice none 0 0] 91))
  clear P0
  have KW := blk_keep B0.out K1
  clear K1
  generalize hW : w1.alloc (.cells #[.pointer none, .slice none 0 0] 91) = W2 at BA B0 KW
  have x0 : W2.cell? ⟨w.heap.size, 0, none⟩ = some (.int .i64 a) := cell_of_row _ _ _ _ _ _ KW
  have x1 : W2.cell? ⟨w.heap.size, 1, none⟩ = some (.int .i64 b) := cell_of_row _ _ _ _ _ _ KW
  have x2 : W2.cell? ⟨w.heap.size, 2, none⟩ = some (.int .i64 c) := cell_of_row _ _ _ _ _ _ KW
  have x3 : W2.cell? ⟨w.heap.size, 3, none⟩ = some (.int .i64 d) := cell_of_row _ _ _ _ _ _ KW
  go_wp2_with (rw [hW])
  clear hW KW
  clear x0 x1 x2 x3
  go_loopw [4, 5, 18] (fun _ _ i wr => ∃ (k : Nat) (z : Int), k ≤ 4 ∧ z = (k : Int) ∧ i = .int .i64 z ∧ Hid (Below w1.heap.size w1 wr) ∧ Hid (IsBuilderF 91 5 w1.heap.size w1.heap.size (byteCells (Q k)) wr)) (fun _ _ i _ => 4 - (RowKit.intOf i).toNat)
  case atStart => exact ⟨0, 0, by omega, rfl, rfl, B0, Lib.hid (.inl BA.out)⟩
  case round =>
    obtain ⟨k, z, hk, hz, rfl, HW, HA⟩ := hrel
    have R4 : k = 0 ∨ k = 1 ∨ k = 2 ∨ k = 3 ∨ k = 4 := by omega
    have VW := Lib.hid (V1.out.below HW.out)
    have hsz := HW.out.size
    rcases R4 with rfl | rfl | rfl | rfl | rfl
    · obtain rfl : z = 0 := by simpa using hz
      have hq : (Q 0).length ≤ 66 := by have := Z.out; omega
      have m := M0.out _ VW.out
      have hix := ix0 a b c d wr
      clear hz hk Z D1 S1 M1 L1 D2 S2 M2 L2 D3 S3 M3 L3
      go_wp2_with fail
      refine (D0.out _ VW.out.tab).mono ?_
      rintro e w3 ⟨rfl, b3⟩
      have HB3 := Lib.hid (below_then HW.out b3)
      have VW3 := Lib.hid (VW.out.below b3)
      have HA3 : Hid (IsBuilderF 91 5 w1.heap.size w1.heap.size (byteCells (Q 0)) w3) := Lib.hid (HA.out.elim (fun h => .inl (Stx.bu_keep h b3)) (fun h => .inr (Stx.bu_keep h b3)))
      have W := Lib.hid (put_text w1.heap.size w1.heap.size (byteCells (Q 0)) ⟨t0.toArray⟩ w3 HA3.out (by rw [byteCells_length]; show _ + t0.length ≤ _; omega) HB3.out.size)
      clear b3 m HA D0
      go_wp2_with fail
      refine W.out.mono ?_
      rintro e w4 ⟨rfl, ha4, b4⟩
      have HB4 := Lib.hid (HB3.out.trans b4)
      have m := M0.out _ (V1.out.below HB4.out)
      have W2 := Lib.hid (put_text w1.heap.size w1.heap.size (byteCells (Q 0) ++ strCells ⟨t0.toArray⟩) ⟨#[43]⟩ w4 (.inr ha4) (by rw [Stx.cells_text, byteCells_length, List.length_append]; show _ + 1 ≤ _; omega) HB4.out.size)
      clear W ha4 b4 HA3
      go_wp2_with fail
      refine W2.out.mono ?_
      rintro e w5 ⟨rfl, ha5, b5⟩
      have HB5 := Lib.hid (HB4.out.trans b5)
      have HA5 : Hid (IsBuilderF 91 5 w1.heap.size w1.heap.size (byteCells (Q 1)) w5) := Lib.hid (by rw [← S0.out]; exact .inr ha5)
      clear W2 ha5 b5 m
      go_wp2_with fail
      go_roundw
      case rel => exact ⟨1, 1, by omega, rfl, rfl, HB5, HA5⟩
      case measure => simp [RowKit.intOf]
    · obtain rfl : z = 1 := by simpa using hz
      have hq : (Q 1).length ≤ 66 := by have := Z.out; omega
      have m := M1.out _ VW.out
      have hix := ix1 a b c d wr
      clear hz hk Z D0 S0 M0 L0 D2 S2 M2 L2 D3 S3 M3 L3
      go_wp2_with fail
      refine (D1.out _ VW.out.tab).mono ?_
      rintro e w3 ⟨rfl, b3⟩
      have HB3 := Lib.hid (below_then HW.out b3)
      have VW3 := Lib.hid (VW.out.below b3)
      have HA3 : Hid (IsBuilderF 91 5 w1.heap.size w1.heap.size (byteCells (Q 1)) w3) := Lib.hid (HA.out.elim (fun h => .inl (Stx.bu_keep h b3)) (fun h => .inr (Stx.bu_keep h b3)))
      have W := Lib.hid (put_text w1.heap.size w1.heap.size (byteCells (Q 1)) ⟨t1.toArray⟩ w3 HA3.out (by rw [byteCells_length]; show _ + t1.length ≤ _; omega) HB3.out.size)
      clear b3 m HA D1
      go_wp2_with fail
      refine W.out.mono ?_
      rintro e w4 ⟨rfl, ha4, b4⟩
      have HB4 := Lib.hid (HB3.out.trans b4)
      have m := M1.out _ (V1.out.below HB4.out)
      have W2 := Lib.hid (put_text w1.heap.size w1.heap.size (byteCells (Q 1) ++ strCells ⟨t1.toArray⟩) ⟨#[40]⟩ w4 (.inr ha4) (by rw [Stx.cells_text, byteCells_length, List.length_append]; show _ + 1 ≤ _; omega) HB4.out.size)
      clear W ha4 b4 HA3
      go_wp2_with fail
      refine W2.out.mono ?_
      rintro e w5 ⟨rfl, ha5, b5⟩
      have HB5 := Lib.hid (HB4.out.trans b5)
      have HA5 : Hid (IsBuilderF 91 5 w1.heap.size w1.heap.size (byteCells (Q 2)) w5) := Lib.hid (by rw [← S1.out]; exact .inr ha5)
      clear W2 ha5 b5 m
      go_wp2_with fail
      go_roundw
      case rel => exact ⟨2, 2, by omega, rfl, rfl, HB5, HA5⟩
      case measure => simp [RowKit.intOf]
    · obtain rfl : z = 2 := by simpa using hz
      have hq : (Q 2).length ≤ 66 := by have := Z.out; omega
      have m := M2.out _ VW.out
      have hix := ix2 a b c d wr
      clear hz hk Z D0 S0 M0 L0 D1 S1 M1 L1 D3 S3 M3 L3
      go_wp2_with fail
      refine (D2.out _ VW.out.tab).mono ?_
      rintro e w3 ⟨rfl, b3⟩
      have HB3 := Lib.hid (below_then HW.out b3)
      have VW3 := Lib.hid (VW.out.below b3)
      have HA3 : Hid (IsBuilderF 91 5 w1.heap.size w1.heap.size (byteCells (Q 2)) w3) := Lib.hid (HA.out.elim (fun h => .inl (Stx.bu_keep h b3)) (fun h => .inr (Stx.bu_keep h b3)))
      have W := Lib.hid (put_text w1.heap.size w1.heap.size (byteCells (Q 2)) ⟨t2.toArray⟩ w3 HA3.out (by rw [byteCells_length]; show _ + t2.length ≤ _; omega) HB3.out.size)
      clear b3 m HA D2
      go_wp2_with fail
      refine W.out.mono ?_
      rintro e w4 ⟨rfl, ha4, b4⟩
      have HB4 := Lib.hid (HB3.out.trans b4)
      have m := M2.out _ (V1.out.below HB4.out)
      have W2 := Lib.hid (put_text w1.heap.size w1.heap.size (byteCells (Q 2) ++ strCells ⟨t2.toArray⟩) ⟨#[44]⟩ w4 (.inr ha4) (by rw [Stx.cells_text, byteCells_length, List.length_append]; show _ + 1 ≤ _; omega) HB4.out.size)
      clear W ha4 b4 HA3
      go_wp2_with fail
      refine W2.out.mono ?_
      rintro e w5 ⟨rfl, ha5, b5⟩
      have HB5 := Lib.hid (HB4.out.trans b5)
      have HA5 : Hid (IsBuilderF 91 5 w1.heap.size w1.heap.size (byteCells (Q 3)) w5) := Lib.hid (by rw [← S2.out]; exact .inr ha5)
      clear W2 ha5 b5 m
      go_wp2_with fail
      go_roundw
      case rel => exact ⟨3, 3, by omega, rfl, rfl, HB5, HA5⟩
      case measure => simp [RowKit.intOf]
    · obtain rfl : z = 3 := by simpa using hz
      have hq : (Q 3).length ≤ 66 := by have := Z.out; omega
      have m := M3.out _ VW.out
      have hix := ix3 a b c d wr
      clear hz hk Z D0 S0 M0 L0 D1 S1 M1 L1 D2 S2 M2 L2
      go_wp2_with fail
      refine (D3.out _ VW.out.tab).mono ?_
      rintro e w3 ⟨rfl, b3⟩
      have HB3 := Lib.hid (below_then HW.out b3)
      have VW3 := Lib.hid (VW.out.below b3)
      have HA3 : Hid (IsBuilderF 91 5 w1.heap.size w1.heap.size (byteCells (Q 3)) w3) := Lib.hid (HA.out.elim (fun h => .inl (Stx.bu_keep h b3)) (fun h => .inr (Stx.bu_keep h b3)))
      have W := Lib.hid (put_text w1.heap.size w1.heap.size (byteCells (Q 3)) ⟨t3.toArray⟩ w3 HA3.out (by rw [byteCells_length]; show _ + t3.length ≤ _; omega) HB3.out.size)
      clear b3 m HA D3
      go_wp2_with fail
      refine W.out.mono ?_
      rintro e w4 ⟨rfl, ha4, b4⟩
      have HB4 := Lib.hid (HB3.out.trans b4)
      have m := M3.out _ (V1.out.below HB4.out)
      have W2 := Lib.hid (put_text w1.heap.size w1.heap.size (byteCells (Q 3) ++ strCells ⟨t3.toArray⟩) ⟨#[41]⟩ w4 (.inr ha4) (by rw [Stx.cells_text, byteCells_length, List.length_append]; show _ + 1 ≤ _; omega) HB4.out.size)
      clear W ha4 b4 HA3
      go_wp2_with fail
      refine W2.out.mono ?_
      rintro e w5 ⟨rfl, ha5, b5⟩
      have HB5 := Lib.hid (HB4.out.trans b5)
      have HA5 : Hid (IsBuilderF 91 5 w1.heap.size w1.heap.size (byteCells (Q 4)) w5) := Lib.hid (by rw [← S3.out]; exact .inr ha5)
      clear W2 ha5 b5 m
      go_wp2_with fail
      go_roundw
      case rel => exact ⟨4, 4, by omega, rfl, rfl, HB5, HA5⟩
      case measure => simp [RowKit.intOf]
    · obtain rfl : z = 4 := by simpa using hz
      have S := Lib.hid (Tryd.Builder_String_any_k w1.heap.size w1.heap.size (Q 4) wr HA.out HW.out.size)
      rw [P4.out] at S
      clear hk hz Z D0 D1 D2 D3 S0 S1 S2 S3 M0 M1 M2 M3
      generalize hq : R.toArray = q at S
      go_wp2_with fail
      refine S.out.mono ?_
      rintro e w5 ⟨rfl, _, b5, _⟩
      have HB5 := Lib.hid (below_then HB1.out (HW.out.trans b5))
      clear b5
      go_wp2_with fail
      go_ret
      exact ⟨by rw [hq]; rfl, HB5.out⟩
theorem impl_text (a b c d : Int) (w : World) (hV : VT w) : Calls Tryd.prog 43 #[Str.reV a b c d] w fun e w' => e = .returned (.string (sxT a b c d)) ∧ Below w.heap.size w w' := by
  unfold sxT
  cases r : stB a b c d
  · exact impl_no a b c d r w hV
  · exact impl_yes a b c d r w hV
end Go.Proofs.YtpmmfalpcooenaaDoor.Sx
