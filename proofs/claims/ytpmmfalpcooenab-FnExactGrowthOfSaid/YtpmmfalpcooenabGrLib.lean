/- The straight line through lengths over days: the spec's and the program's. -/
import Derived.Test.YtpmmfalpcooenabClLib
import Derived.Test.YtpmmfalpcooenabGbLib
import Derived.Test.YtpmmfalpcooenabQbLib
namespace Go.Proofs.Ytpmmfalpcooenab.Gr
open Go.RowKit Ft Fs Ld Is Fc Cl Gm Gb

set_option maxRecDepth 100000 in
set_option maxHeartbeats 1000000 in
theorem spec_line (A B : Option Addr) (n c c' : Nat) (d x : Nat → Int) (ho : Ok n d x) (w : World) (hA : Nums w w.heap.size A n d) (hB : Nums w w.heap.size B n x) :
    Calls Try.prog 58 #[.slice A n c, .slice B n c'] w fun e w' => e = .returned (.tuple #[.int .i64 (pairs d x n), .int .i64 (pairs d d n)]) ∧ Below w.heap.size w w' := by
  have HA := Lib.hid hA
  have HB := Lib.hid hB
  have HO := Lib.hid ho
  have h30 := ho.1
  clear hA hB ho
  go_enter Try.func58, Try.ntmps58
  go_wp2_with fail
  go_loopw [6, 7, 8] (fun a b i wr => ∃ k : Nat, k ≤ n ∧ i = .int .i64 k ∧ a = .int .i64 (pairs d x k) ∧ b = .int .i64 (pairs d d k) ∧ Hid (∃ q, wr = w.drewN q)) (fun _ _ i _ => n - (intOf i).toNat)
  case atStart => exact ⟨0, Nat.zero_le _, rfl, rfl, rfl, Lib.hid ⟨0, rfl⟩⟩
  case round =>
    obtain ⟨i, hi, rfl, rfl, rfl, HQ⟩ := hrel
    by_cases hlt : i < n
    · go_wp2_with fail
      go_loopw [6, 7, 9] (fun a b i' wr => ∃ k : Nat, k ≤ i ∧ i' = .int .i64 k ∧ a = .int .i64 (pairs d x i + row d x i k) ∧ b = .int .i64 (pairs d d i + row d d i k) ∧ Hid (∃ q, wr = w.drewN q)) (fun _ _ i' _ => i - (intOf i').toNat)
      case atStart => exact ⟨0, Nat.zero_le _, rfl, by simp [row], by simp [row], HQ⟩
      case round =>
        clear HQ
        obtain ⟨k, hk, rfl, rfl, rfl, HQ⟩ := hrel
        by_cases hlk : k < i
        · obtain ⟨b1, o1, rfl, _, hc1⟩ := HA.out (by omega)
          obtain ⟨b2, o2, rfl, _, hc2⟩ := HB.out (by omega)
          have x0 : wr.cell? ⟨b1, o1 + i, none⟩ = some (.int .i64 (d i)) := by obtain ⟨q, rfl⟩ := HQ.out; exact hc1 i hlt
          have x1 : wr.cell? ⟨b1, o1 + k, none⟩ = some (.int .i64 (d k)) := by obtain ⟨q, rfl⟩ := HQ.out; exact hc1 k (by omega)
          have y0 : wr.cell? ⟨b2, o2 + i, none⟩ = some (.int .i64 (x i)) := by obtain ⟨q, rfl⟩ := HQ.out; exact hc2 i hlt
          have y1 : wr.cell? ⟨b2, o2 + k, none⟩ = some (.int .i64 (x k)) := by obtain ⟨q, rfl⟩ := HQ.out; exact hc2 k (by omega)
          have HQ' : Hid (∀ q, ∃ p, wr.drewN q = w.drewN p) := Lib.hid fun q => by obtain ⟨p, rfl⟩ := HQ.out; exact ⟨_, World.drewN_drewN _ _ _⟩
          obtain ⟨p1, p2, p3, p4⟩ := diff_bd HO.out hlt (show k < n by omega)
          obtain ⟨p5, p6, p7, p8⟩ := row_bd HO.out hlt k (by omega)
          obtain ⟨p9, p10, p11, p12⟩ := pairs_bd HO.out i (by omega)
          have a := HO.out.2 i hlt
          have b := HO.out.2 k (by omega)
          have HR1 : Hid (row d x i (k + 1) = row d x i k + (d i - d k) * (x i - x k)) := Lib.hid rfl
          have HR2 : Hid (row d d i (k + 1) = row d d i k + (d i - d k) * (d i - d k)) := Lib.hid rfl
          have e0 : (0 : Int) ≤ (k : Int) := Int.natCast_nonneg _
          have e1 : (k : Int) < (n : Int) := by omega
          have e2 : (i : Int) < (n : Int) := by omega
          have e3 : (k : Int) < (i : Int) := by omega
          have e4 : (i : Int) ≤ 30 := by omega
          obtain ⟨a1, a2, a3, a4⟩ := a
          obtain ⟨c1, c2, c3, c4⟩ := b
          clear hc1 hc2
          generalize row d x i k = R1 at *
          generalize row d d i k = R2 at *
          generalize pairs d x i = P1 at *
          generalize pairs d d i = P2 at *
          generalize d i = u at *
          generalize d k = v at *
          generalize x i = s at *
          generalize x k = t at *
          go_wp2_with fail
          go_quiet (fail)
          go_wp2_with fail
          go_quiet (fail)
          go_wp2_with fail
          go_roundw
          case rel => exact ⟨k + 1, by omega, by go_num, by rw [HR1.out]; go_num, by rw [HR2.out]; go_num, Lib.hid (HQ'.out _)⟩
          case measure => simp [intOf]; omega
        · obtain rfl : k = i := by omega
          have HR1 : Hid (pairs d x (k + 1) = pairs d x k + row d x k k) := Lib.hid rfl
          have HR2 : Hid (pairs d d (k + 1) = pairs d d k + row d d k k) := Lib.hid rfl
          go_wp2_with fail
          go_roundw
          case rel => exact ⟨k + 1, by omega, by go_num, by rw [HR1.out], by rw [HR2.out], HQ⟩
          case measure => simp [intOf]; omega
    · obtain rfl : i = n := by omega
      have HF : Hid (Below w.heap.size w wr) := Lib.hid (by obtain ⟨q, rfl⟩ := HQ.out; exact ⟨rfl, rfl, rfl, Nat.le_refl _, fun _ _ => rfl⟩)
      go_wp2_with fail
      exact bodyPost_ret (v := .tuple #[.int .i64 (pairs d x i), .int .i64 (pairs d d i)]) (by simp [results, Try.results58, go_sem]) rfl ⟨rfl, HF.out⟩

theorem info_line : (Try.prog.info? 90).map (fun i => (i.zero, i.size, i.bytes)) = some (some (.agg #[.int .i64 0, .int .i64 0, .int .i64 0, .int .i64 0, .int .i64 0]), 5, 40) := by kernel_rfl
theorem blk5 {w : World} {g : Nat} {t : TypeId} {c0 c1 c2 c3 c4 : Value} (h : w.heap[g]? = some (.cells #[c0, c1, c2, c3, c4] t (0, 0))) :
    w.cell? ⟨g, 0, none⟩ = some c0 ∧ w.cell? ⟨g, 1, none⟩ = some c1 ∧ w.cell? ⟨g, 2, none⟩ = some c2 ∧ w.cell? ⟨g, 3, none⟩ = some c3 ∧ w.cell? ⟨g, 4, none⟩ = some c4 :=
  ⟨cell_of_row _ _ _ _ _ _ h, cell_of_row _ _ _ _ _ _ h, cell_of_row _ _ _ _ _ _ h, cell_of_row _ _ _ _ _ _ h, cell_of_row _ _ _ _ _ _ h⟩
set_option maxRecDepth 100000 in
set_option maxHeartbeats 1000000 in
theorem impl_line (A B : Option Addr) (n c c' : Nat) (d : Nat → Int) (F : Nat → Nat → Int) (ho : Ok n d (fun i => F i 0)) (w : World) (hA : Nums w w.heap.size A n d) (hB : Ints w w.heap.size 4 B n F) :
    Calls Try.prog 62 #[.slice A n c, .slice B n c'] w fun e w' => e = .returned (.agg #[.int .i64 n, .int .i64 (sm d n), .int .i64 (sm (fun i => F i 0) n), .int .i64 (pairs d (fun i => F i 0) n), .int .i64 (pairs d d n)]) ∧ Below w.heap.size w w' := by
  have HA := Lib.hid hA
  have HB := Lib.hid hB
  have HO := Lib.hid ho
  have h30 := ho.1
  clear hA hB ho
  go_enter Try.func62, Try.ntmps62
  go_wp2_with fail
  go_loopw [5, 6, 8, 9, 15] (fun a b _ _ i wr => ∃ k : Nat, k ≤ n ∧ i = .int .i64 k ∧ a = .int .i64 (sm (fun k => d k * F k 0) k) ∧ b = .int .i64 (sm (fun k => d k * d k) k) ∧ Below w.heap.size w wr ∧
    Hid (wr.heap[w.heap.size]? = some (.cells #[.int .i64 0, .int .i64 0, .int .i64 0, .int .i64 0, .int .i64 0] 90 (0, 0))) ∧ Hid (wr.heap[w.heap.size + 1]? = some (.cells #[.int .i64 n, .int .i64 (sm d k), .int .i64 (sm (fun i => F i 0) k), .int .i64 0, .int .i64 0] 90 (0, 0)))) (fun _ _ _ _ i _ => n - (intOf i).toNat)
  case atStart => exact ⟨0, Nat.zero_le _, rfl, rfl, rfl, ((Below.refl _ _).alloc (Nat.le_refl _) _).alloc (by simp) _, Lib.hid ((Below.heap_alloc _ _ _ (by simp)).trans (heap_alloc_new _ _)), Lib.hid (by have := heap_alloc_new (w.alloc (.cells #[.int .i64 0, .int .i64 0, .int .i64 0, .int .i64 0, .int .i64 0] 90)) (.cells #[.int .i64 n, .int .i64 0, .int .i64 0, .int .i64 0, .int .i64 0] 90); simpa [sm] using this)⟩
  case round =>
    obtain ⟨k, hk, rfl, rfl, rfl, hbel, KZ, KL⟩ := hrel
    have HW := Lib.hid hbel
    obtain ⟨s1, s2, s3, s4, s5, s6, s7, s8⟩ := sums_bd HO.out hk
    by_cases hlt : k < n
    · obtain ⟨b1, o1, rfl, hb1, hc1⟩ := (HA.out.below hbel (Nat.le_refl _)) (by omega)
      obtain ⟨b2, o2, rfl, hb2, hc2⟩ := (HB.out.below hbel (Nat.le_refl _)).2.2 (by omega)
      have x0 := hc1 k hlt
      have y0 : wr.cell? ⟨b2, o2 + k * 4, none⟩ = some (.int .i64 (F k 0)) := hc2 k hlt 0 (by omega)
      have HS : Hid (sm d (k + 1) = sm d k + d k ∧ sm (fun i => F i 0) (k + 1) = sm (fun i => F i 0) k + F k 0 ∧ sm (fun k => d k * F k 0) (k + 1) = sm (fun k => d k * F k 0) k + d k * F k 0 ∧ sm (fun k => d k * d k) (k + 1) = sm (fun k => d k * d k) k + d k * d k) := Lib.hid ⟨rfl, rfl, rfl, rfl⟩
      obtain ⟨t1, t2, t3, t4⟩ : 0 ≤ d k ∧ d k ≤ 10000 ∧ 500 ≤ F k 0 ∧ F k 0 ≤ 5000 := HO.out.2 k hlt
      have p1 := prod_bd (u := d k) (v := F k 0) (a := 10000) (b := 5000) (by omega) (by omega) (by omega) (by omega)
      have p2 := prod_bd (u := d k) (v := d k) (a := 10000) (b := 10000) (by omega) (by omega) (by omega) (by omega)
      obtain ⟨p3, p4⟩ := p1
      obtain ⟨p5, p6⟩ := p2
      have e0 : (0 : Int) ≤ (k : Int) := Int.natCast_nonneg _
      have e1 : (k : Int) < (n : Int) := by omega
      obtain ⟨z0, z1, z2, z3, z4⟩ := blk5 KL.out
      have fr := blk_free KL.out
      have hl := lt_of_heap KL.out
      have n1 : b1 ≠ w.heap.size + 1 := by omega
      have n2 : b2 ≠ w.heap.size + 1 := by omega
      clear hc1 hc2 hbel
      generalize sm d k = S1 at *
      generalize sm (fun i => F i 0) k = S2 at *
      generalize sm (fun k => d k * F k 0) k = S3 at *
      generalize sm (fun k => d k * d k) k = S4 at *
      generalize d k = u at *
      generalize F k 0 = v at *
      go_wp2_with fail
      go_region
      all_goals
        go_wp2_with fail
        go_roundw
        case rel =>
          refine ⟨k + 1, by omega, by go_num, by rw [HS.out.2.2.1], by rw [HS.out.2.2.2], ((HW.out.setCell (by simp) _).setCell (by simp) _).drew, Lib.hid ((Below.heap_setCell _ _ _ _ (by simp)).trans ((Below.heap_setCell _ _ _ _ (by simp)).trans KZ.out)), Lib.hid ?_⟩
          rw [HS.out.1, HS.out.2.1]
          exact heap_set (heap_set KL.out 1 _) 2 _
        case measure => simp [intOf]; omega
    · obtain rfl : k = n := by omega
      have HP : Hid (pairs d (fun i => F i 0) k = (k : Int) * sm (fun q => d q * F q 0) k - sm d k * sm (fun i => F i 0) k ∧ pairs d d k = (k : Int) * sm (fun q => d q * d q) k - sm d k * sm d k) := Lib.hid ⟨pairs_eq d (fun i => F i 0) k, pairs_eq d d k⟩
      obtain ⟨q1, q2, q3, q4⟩ := pairs_bd HO.out k (Nat.le_refl _)
      obtain ⟨z0, z1, z2, z3, z4⟩ := blk5 KL.out
      have fr := blk_free KL.out
      have hl := lt_of_heap KL.out
      have e4 : (k : Int) ≤ 30 := by omega
      have e5 : (0 : Int) ≤ (k : Int) := Int.natCast_nonneg _
      clear hbel
      generalize hP1 : pairs d (fun i => F i 0) k = P1 at *
      generalize hP2 : pairs d d k = P2 at *
      generalize hS1 : sm d k = S1 at *
      generalize hS2 : sm (fun i => F i 0) k = S2 at *
      have HP1 := Lib.hid hP1
      have HP2 := Lib.hid hP2
      have HS1 := Lib.hid hS1
      have HS2 := Lib.hid hS2
      clear hP1 hP2 hS1 hS2
      generalize sm (fun k => d k * F k 0) k = S3 at *
      generalize sm (fun k => d k * d k) k = S4 at *
      obtain ⟨h1, h2⟩ := HP.out
      have r1 := prod_bd (u := (k : Int)) (v := S3) (a := 30) (b := 1500000000) (by omega) (by omega) (by omega) (by omega)
      have r2 := prod_bd (u := S1) (v := S2) (a := 300000) (b := 150000) (by omega) (by omega) (by omega) (by omega)
      have r3 := prod_bd (u := (k : Int)) (v := S4) (a := 30) (b := 3000000000) (by omega) (by omega) (by omega) (by omega)
      have r4 := prod_bd (u := S1) (v := S1) (a := 300000) (b := 300000) (by omega) (by omega) (by omega) (by omega)
      obtain ⟨r11, r12⟩ := r1
      obtain ⟨r21, r22⟩ := r2
      obtain ⟨r31, r32⟩ := r3
      obtain ⟨r41, r42⟩ := r4
      obtain ⟨v0, v1, v2, v3, v4⟩ := blk5 KZ.out
      have fz := blk_free KZ.out
      have HE : Hid ((k : Int) * S3 - S1 * S2 = P1 ∧ (k : Int) * S4 - S1 * S1 = P2) := Lib.hid ⟨h1.symm, h2.symm⟩
      clear h1 h2 HP
      go_wp2_with fail
      have KF : Hid ((((((((wr.setCell ⟨w.heap.size + 1, 3, none⟩ (.int .i64 ((k : Int) * S3 - S1 * S2))).setCell ⟨w.heap.size + 1, 4, none⟩ (.int .i64 ((k : Int) * S4 - S1 * S1))).setCell ⟨w.heap.size, 0, none⟩ (.int .i64 (k : Int))).setCell ⟨w.heap.size, 1, none⟩ (.int .i64 S1)).setCell ⟨w.heap.size, 2, none⟩ (.int .i64 S2)).setCell ⟨w.heap.size, 3, none⟩ (.int .i64 ((k : Int) * S3 - S1 * S2))).setCell ⟨w.heap.size, 4, none⟩ (.int .i64 ((k : Int) * S4 - S1 * S1))).heap[w.heap.size]? = some (.cells #[.int .i64 (k : Int), .int .i64 S1, .int .i64 S2, .int .i64 ((k : Int) * S3 - S1 * S2), .int .i64 ((k : Int) * S4 - S1 * S1)] 90 (0, 0))) :=
        Lib.hid (heap_set (heap_set (heap_set (heap_set (heap_set ((Below.heap_setCell _ _ _ _ (by simp)).trans ((Below.heap_setCell _ _ _ _ (by simp)).trans KZ.out)) 0 _) 1 _) 2 _) 3 _) 4 _)
      have HBF : Hid (Below w.heap.size w (((((((wr.setCell ⟨w.heap.size + 1, 3, none⟩ (.int .i64 ((k : Int) * S3 - S1 * S2))).setCell ⟨w.heap.size + 1, 4, none⟩ (.int .i64 ((k : Int) * S4 - S1 * S1))).setCell ⟨w.heap.size, 0, none⟩ (.int .i64 (k : Int))).setCell ⟨w.heap.size, 1, none⟩ (.int .i64 S1)).setCell ⟨w.heap.size, 2, none⟩ (.int .i64 S2)).setCell ⟨w.heap.size, 3, none⟩ (.int .i64 ((k : Int) * S3 - S1 * S2))).setCell ⟨w.heap.size, 4, none⟩ (.int .i64 ((k : Int) * S4 - S1 * S1)))) := Lib.hid (((((((HW.out.setCell (by simp) _).setCell (by simp) _).setCell (by simp) _).setCell (by simp) _).setCell (by simp) _).setCell (by simp) _).setCell (by simp) _)
      generalize ((((((wr.setCell ⟨w.heap.size + 1, 3, none⟩ (.int .i64 ((k : Int) * S3 - S1 * S2))).setCell ⟨w.heap.size + 1, 4, none⟩ (.int .i64 ((k : Int) * S4 - S1 * S1))).setCell ⟨w.heap.size, 0, none⟩ (.int .i64 (k : Int))).setCell ⟨w.heap.size, 1, none⟩ (.int .i64 S1)).setCell ⟨w.heap.size, 2, none⟩ (.int .i64 S2)).setCell ⟨w.heap.size, 3, none⟩ (.int .i64 ((k : Int) * S3 - S1 * S2))).setCell ⟨w.heap.size, 4, none⟩ (.int .i64 ((k : Int) * S4 - S1 * S1)) = wf at KF HBF ⊢
      clear z0 z1 z2 z3 z4 v0 v1 v2 v3 v4 fz fr
      obtain ⟨z0, z1, z2, z3, z4⟩ := blk5 KF.out
      exact bodyPost_ret (v := .agg #[.int .i64 (k : Int), .int .i64 S1, .int .i64 S2, .int .i64 ((k : Int) * S3 - S1 * S2), .int .i64 ((k : Int) * S4 - S1 * S1)]) (by simp [results, Try.results62, go_sem, z0, z1, z2, z3, z4]) rfl ⟨by rw [HS1.out, HS2.out, HP1.out, HP2.out, HE.out.1, HE.out.2], HBF.out⟩
end Go.Proofs.Ytpmmfalpcooenab.Gr
