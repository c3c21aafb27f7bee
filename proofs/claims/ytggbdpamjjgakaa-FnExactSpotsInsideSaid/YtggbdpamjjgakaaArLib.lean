/- The sum over the sides of an outline: TwiceArea, IsLeftHanded. -/
import Derived.Test.YtggbdpamjjgakaaOmLib
import Derived.Test.YtggbdpamjjgakaaFrLib
namespace Go.Proofs.Ytggbdpamjjgakaa.Ar
set_option linter.unusedVariables false
open Go.RowKit Ft Is Ge Qb Ol Ot Opl Oq Oi Oj Ok Om

def sw (n : Nat) (f : Nat → Int) (i : Nat) : Int := f (i * 2) * f (nx n i * 2 + 1) - f (nx n i * 2) * f (i * 2 + 1)
def sumN (n : Nat) (f : Nat → Int) : Nat → Int
  | 0 => 0
  | k + 1 => sumN n f k + sw n f k
theorem rng_at {n : Nat} {f : Nat → Int} (h : Rng n f) {i : Nat} (hi : i < n) : (0 ≤ f (i * 2) ∧ f (i * 2) ≤ 10000) ∧ (0 ≤ f (i * 2 + 1) ∧ f (i * 2 + 1) ≤ 10000) := rg_spec (h i hi)
theorem mul_bd5 {x y : Int} (hx : 0 ≤ x ∧ x ≤ 10000) (hy : 0 ≤ y ∧ y ≤ 10000) : 0 ≤ x * y ∧ x * y ≤ 100000000 := by
  have := mul_bd4 (x := x) (y := y) (by omega) (by omega)
  have := Int.mul_nonneg hx.1 hy.1
  omega
theorem sw_bd {n : Nat} {f : Nat → Int} (h : Rng n f) {i : Nat} (hi : i < n) : (0 ≤ f (i * 2) * f (nx n i * 2 + 1) ∧ f (i * 2) * f (nx n i * 2 + 1) ≤ 100000000) ∧ (0 ≤ f (nx n i * 2) * f (i * 2 + 1) ∧ f (nx n i * 2) * f (i * 2 + 1) ≤ 100000000) := by
  have h1 := rng_at h hi
  have h2 := rng_at h (nx_lt (n := n) (i := i) (by omega))
  exact ⟨mul_bd5 h1.1 h2.2, mul_bd5 h2.1 h1.2⟩
theorem sum_bd {n : Nat} {f : Nat → Int} (h : Rng n f) : ∀ k, k ≤ n → -(100000000 * (k : Int)) ≤ sumN n f k ∧ sumN n f k ≤ 100000000 * (k : Int)
  | 0, _ => by simp [sumN]
  | k + 1, hk => by
    have ih := sum_bd h k (by omega)
    have := sw_bd h (i := k) (by omega)
    unfold sumN sw
    omega
set_option maxRecDepth 100000 in
set_option maxHeartbeats 2000000 in
theorem ssum (A : Option Addr) (n c : Nat) (f : Nat → Int) (h24 : n ≤ 24) (hR : Rng n f) (w : World) (hA : Nums w w.heap.size A (n * 2) f) :
    Calls Try.prog 50 #[.slice A n c] w fun e w' => e = .returned (.int .i64 (sumN n f n)) ∧ Below w.heap.size w w' := by
  have HA := Lib.hid hA
  have HR := Lib.hid hR
  have HS : Hid (∀ k, sumN n f (k + 1) = sumN n f k + (f (k * 2) * f (nx n k * 2 + 1) - f (nx n k * 2) * f (k * 2 + 1))) := Lib.hid fun k => rfl
  have HB0 : Hid (∀ k, k ≤ n → -(100000000 * (k : Int)) ≤ sumN n f k ∧ sumN n f k ≤ 100000000 * (k : Int)) := Lib.hid fun k hk => sum_bd hR k hk
  have HS0 : Hid (sumN n f 0 = 0) := Lib.hid rfl
  clear hA hR
  generalize sumN n f = S at HS HB0 HS0 ⊢
  go_enter Try.func50, Try.ntmps50
  go_wp2_with fail
  go_loopw [3, 4, 5] (fun s i _ wr => ∃ k : Nat, k ≤ n ∧ s = .int .i64 (S k) ∧ i = .int .i64 (k : Int) ∧ Hid (Below w.heap.size w wr)) (fun _ i _ _ => n - (intOf i).toNat)
  case atStart => exact ⟨0, Nat.zero_le _, by rw [HS0.out], rfl, Lib.hid (Below.refl _ _)⟩
  case round =>
    obtain ⟨k, hk, rfl, rfl, HB⟩ := hrel
    have e0 : (0 : Int) ≤ (k : Int) := Int.natCast_nonneg _
    by_cases hlt : k < n
    · obtain ⟨b, off, rfl, hb, hc⟩ := HA.out (by omega)
      have hc' : ∀ i, i < n * 2 → wr.cell? ⟨b, off + i, none⟩ = some (.int .i64 (f i)) := fun i hi => (HB.out.cell (p := ⟨b, off + i, none⟩) hb).trans (hc i hi)
      have hsz := HB.out.size
      have hm1 := nx_lt (n := n) (i := k) (by omega)
      obtain ⟨a0, a1⟩ := nums_two hc' hlt
      obtain ⟨b0, b1⟩ := nums_two hc' hm1
      have i1 := nx_int n k
      have e1 : (k : Int) < (n : Int) := by omega
      have e2 : (n : Int) ≤ 24 := by omega
      have e3 : ((n : Int) == 0) = false := by simp; omega
      have hbr : b < wr.heap.size := by omega
      have HSk := Lib.hid (HS.out k)
      have q1 := HB0.out k hk
      obtain ⟨q2, q3⟩ := sw_bd HR.out hlt
      generalize f (k * 2) = px at a0 q2 q3 HSk
      generalize f (k * 2 + 1) = py at a1 q2 q3 HSk
      generalize f (nx n k * 2) = qx at b0 q2 q3 HSk
      generalize f (nx n k * 2 + 1) = qy at b1 q2 q3 HSk
      have w1 := wr_in (x := px * qy) (by omega)
      have w2 := wr_in (x := qx * py) (by omega)
      have w3 := wr_in (x := px * qy - qx * py) (by omega)
      have w4 := wr_in (x := S k + (px * qy - qx * py)) (by omega)
      have a0' : (wr.alloc (spC qx qy 38)).cell? ⟨b, off + k * 2, none⟩ = some (.int .i64 px) := Lib.cell?_alloc_some _ a0
      have a1' : (wr.alloc (spC qx qy 38)).cell? ⟨b, off + k * 2 + 1, none⟩ = some (.int .i64 py) := Lib.cell?_alloc_some _ a1
      have k5 := Lib.hid (heap_alloc_new wr (spC qx qy 38))
      have HB5 := Lib.hid (below_then HB.out (below_box wr (spC qx qy 38)))
      clear hc hc' hk q1 q2 q3
      go_upto_region 6 with fail
      generalize hs5 : wr.heap.size = s5 at k5 hbr ⊢
      generalize hw5 : wr.alloc _ = w5 at k5 HB5 a0' a1' ⊢
      clear hw5 hs5 a0 a1 b0 b1
      obtain ⟨b0, b1⟩ := blk2 k5.out
      have a0' := bey_cell a0'
      have a1' := bey_cell a1'
      have b0 := bey_cell b0
      have b1 := bey_cell b1
      refine wp_region_below (by kernel_rfl) (by kernel_rfl) ?_
      repeat (go_big_quiet_step (fail))
      refine wpQuiet_nil ?_
      rintro _ ⟨pq, rfl⟩
      have HQ := Lib.hid (below_then HB5.out pq.h)
      generalize pq.to = wq at HQ ⊢
      rw [← HSk.out]
      clear a0' a1' b0 b1 w1 w2 w3 w4 HSk
      go_wp2_with fail
      go_roundw
      case rel => exact ⟨k + 1, by omega, rfl, by go_num, HQ⟩
      case measure => simp [intOf]; omega
    · obtain rfl : n = k := by omega
      have e1 : ¬ (n : Int) < (n : Int) := by omega
      go_wp2_with fail
      go_ret
      exact ⟨rfl, HB.out⟩
set_option maxRecDepth 100000 in
theorem iswept (a b : Pt) (h1 : IntKind.i64.wrap (a.1 * b.2) = a.1 * b.2) (h2 : IntKind.i64.wrap (b.1 * a.2) = b.1 * a.2) (h3 : IntKind.i64.wrap (a.1 * b.2 - b.1 * a.2) = a.1 * b.2 - b.1 * a.2) (w : World) :
    Calls Try.prog 77 #[sdV a b] w fun e w' => e = .returned (.int .i64 (a.1 * b.2 - b.1 * a.2)) ∧ Below w.heap.size w w' := by
  obtain ⟨a0, a1⟩ := a
  obtain ⟨b0, b1⟩ := b
  simp only [sdV] at *
  go_enter Try.func77, Try.ntmps77
  go_wp2
  go_ret
  exact ⟨rfl, below_box _ _⟩
set_option maxRecDepth 100000 in
set_option maxHeartbeats 2000000 in
theorem isum (A : Option Addr) (n c : Nat) (f : Nat → Int) (h24 : n ≤ 24) (hR : Rng n f) (w : World) (hA : Nums w w.heap.size A (n * 4) (sd n f)) :
    Calls Try.prog 52 #[.slice A n c] w fun e w' => e = .returned (.int .i64 (sumN n f n)) ∧ Below w.heap.size w w' := by
  have HA := Lib.hid hA
  have HR := Lib.hid hR
  have HS : Hid (∀ k, sumN n f (k + 1) = sumN n f k + (f (k * 2) * f (nx n k * 2 + 1) - f (nx n k * 2) * f (k * 2 + 1))) := Lib.hid fun k => rfl
  have HB0 : Hid (∀ k, k ≤ n → -(100000000 * (k : Int)) ≤ sumN n f k ∧ sumN n f k ≤ 100000000 * (k : Int)) := Lib.hid fun k hk => sum_bd hR k hk
  have HS0 : Hid (sumN n f 0 = 0) := Lib.hid rfl
  clear hA hR
  generalize sumN n f = S at HS HB0 HS0 ⊢
  go_enter Try.func52, Try.ntmps52
  go_wp2_with fail
  go_loopw [3, 5, 8] (fun s _ i wr => ∃ k : Nat, k ≤ n ∧ s = .int .i64 (S k) ∧ i = .int .i64 (k : Int) ∧ Hid (Below w.heap.size w wr)) (fun _ _ i _ => n - (intOf i).toNat)
  case atStart => exact ⟨0, Nat.zero_le _, by rw [HS0.out], rfl, Lib.hid (Below.refl _ _)⟩
  case round =>
    obtain ⟨k, hk, rfl, rfl, HB⟩ := hrel
    have e0 : (0 : Int) ≤ (k : Int) := Int.natCast_nonneg _
    by_cases hlt : k < n
    · obtain ⟨b, off, rfl, hb, hc⟩ := HA.out (by omega)
      have hc' : ∀ i, i < n * 4 → wr.cell? ⟨b, off + i, none⟩ = some (.int .i64 (sd n f i)) := fun i hi => (HB.out.cell (p := ⟨b, off + i, none⟩) hb).trans (hc i hi)
      obtain ⟨a0, a1, a2, a3⟩ := four_at hc' hlt
      have e1 : (k : Int) < (n : Int) := by omega
      have e2 : (n : Int) ≤ 24 := by omega
      have HSk := Lib.hid (HS.out k)
      have q1 := HB0.out k hk
      obtain ⟨q2, q3⟩ := sw_bd HR.out hlt
      have W := Lib.hid fun w => iswept (f (k * 2), f (k * 2 + 1)) (f (nx n k * 2), f (nx n k * 2 + 1)) (wr_in (by simp only; omega)) (wr_in (by simp only; omega)) (wr_in (by simp only; omega)) w
      have w4 := wr_in (x := S k + (f (k * 2) * f (nx n k * 2 + 1) - f (nx n k * 2) * f (k * 2 + 1))) (by omega)
      simp only [sdV] at W
      generalize f (k * 2) * f (nx n k * 2 + 1) - f (nx n k * 2) * f (k * 2 + 1) = d at W HSk w4
      generalize f (k * 2) = px at a0 W
      generalize f (k * 2 + 1) = py at a1 W
      generalize f (nx n k * 2) = qx at a2 W
      generalize f (nx n k * 2 + 1) = qy at a3 W
      have HB5 := Lib.hid (below_then HB.out (below_box wr (.cells #[.int .i64 px, .int .i64 py, .int .i64 qx, .int .i64 qy] 64)))
      clear hc hc' hk q1 q2 q3
      go_wp2_with fail
      refine (W.out _).mono ?_
      rintro e w5 ⟨rfl, b5⟩
      have HB6 := Lib.hid (below_then HB5.out b5)
      clear a0 a1 a2 a3 b5 HB5
      go_wp2_with fail
      go_roundw
      case rel => exact ⟨k + 1, by omega, by rw [HSk.out], by go_num, HB6⟩
      case measure => simp [intOf]; omega
    · obtain rfl : n = k := by omega
      have e1 : ¬ (n : Int) < (n : Int) := by omega
      go_wp2_with fail
      go_ret
      exact ⟨rfl, HB.out⟩
theorem itwice (A : Option Addr) (n c : Nat) (f : Nat → Int) (h24 : n ≤ 24) (hR : Rng n f) (w : World) (hA : Nums w w.heap.size A (n * 4) (sd n f)) :
    Calls Try.prog 51 #[.slice A n c] w fun e w' => e = .returned (.int .i64 (Nh.ab (sumN n f n))) ∧ Below w.heap.size w w' := by
  have C := Lib.hid (isum A n c f h24 hR w hA)
  have q := sum_bd hR n (Nat.le_refl _)
  clear hA hR
  generalize sumN n f n = s at C q ⊢
  have q' : -2400000000 ≤ s ∧ s ≤ 2400000000 := by omega
  clear q
  unfold Nh.ab
  by_cases hs : s < 0
  · rw [if_pos hs]
    have n1 : s < -s := by omega
    have n3 := wr_in (x := -s) (by omega)
    go_enter Try.func51, Try.ntmps51
    go_wp2_with fail
    refine C.out.mono ?_
    rintro e w5 ⟨rfl, b5⟩
    go_wp2_with fail
    go_ret
    exact ⟨rfl, b5⟩
  · rw [if_neg hs]
    have n1 : -s ≤ s := by omega
    have n2 : ¬ (s < -s) := by omega
    have n3 := wr_in (x := -s) (by omega)
    go_enter Try.func51, Try.ntmps51
    go_wp2_with fail
    refine C.out.mono ?_
    rintro e w5 ⟨rfl, b5⟩
    go_wp2_with fail
    go_ret
    exact ⟨rfl, b5⟩
/- The answers. -/
open Classical in
noncomputable def oA (n : Nat) (f : Nat → Int) (x : Int) : Int := if outB n f = true then x else 0
noncomputable def oC (n : Nat) (f : Nat → Int) : Int := if outB n f = true then 0 else 1
theorem oA_no {n : Nat} {f : Nat → Int} (h : outB n f = false) (x : Int) : oA n f x = 0 := by unfold oA; rw [h]; rfl
theorem oA_yes {n : Nat} {f : Nat → Int} (h : outB n f = true) (x : Int) : oA n f x = x := by unfold oA; rw [if_pos h]
theorem oC_no {n : Nat} {f : Nat → Int} (h : outB n f = false) : oC n f = 1 := by unfold oC; rw [h]; rfl
theorem oC_yes {n : Nat} {f : Nat → Int} (h : outB n f = true) : oC n f = 0 := by unfold oC; rw [if_pos h]
theorem out_is {n : Nat} {f : Nat → Int} (h : outB n f = true) : Rng n f ∧ 3 ≤ n ∧ n ≤ 24 := by
  have := tv_iff.1 h
  exact ⟨this.1, this.2.1⟩
theorem spec_ta (A : Option Addr) (n c : Nat) (f : Nat → Int) (hn : n ≤ 1048576) (w : World) (hA : Nums w w.heap.size A (n * 2) f) :
    Calls Try.prog 21 #[.slice A n c] w fun e w' => e = .returned (.tuple #[.int .i64 (oA n f (Nh.ab (sumN n f n))), .int .i64 (oC n f)]) ∧ Below w.heap.size w w' := by
  have C := Lib.hid (sok A n c f hn w hA)
  cases ho : outB n f
  · rw [oA_no ho, oC_no ho]
    rw [ho] at C
    clear hA
    go_enter Try.func21, Try.ntmps21
    go_wp2_with fail
    refine C.out.mono ?_
    rintro e w2 ⟨rfl, b2⟩
    go_wp2_with fail
    go_ret2
    exact ⟨rfl, b2⟩
  · obtain ⟨hR, h3, h24⟩ := out_is ho
    rw [oA_yes ho, oC_yes ho]
    rw [ho] at C
    have S : Hid (∀ w', Below w.heap.size w w' → Calls Try.prog 50 #[.slice A n c] w' fun e w2 => e = .returned (.int .i64 (sumN n f n)) ∧ Below w'.heap.size w' w2) := Lib.hid fun w' hb => ssum A n c f h24 hR w' ((hA.below hb (Nat.le_refl _)).more hb.size)
    have q := sum_bd hR n (Nat.le_refl _)
    have Z := Lib.hid fun w => Fr.ssize (sumN n f n) (by omega) w
    clear hA hR q
    generalize Nh.ab (sumN n f n) = t at Z ⊢
    generalize sumN n f n = s at S Z
    go_enter Try.func21, Try.ntmps21
    go_wp2_with fail
    refine C.out.mono ?_
    rintro e w2 ⟨rfl, b2⟩
    have B2 := Lib.hid b2
    clear b2
    go_wp2_with fail
    refine (S.out _ B2.out).mono ?_
    rintro e w3 ⟨rfl, b3⟩
    have B3 := Lib.hid (below_then B2.out b3)
    clear b3
    go_wp2_with fail
    refine (Z.out _).mono ?_
    rintro e w4 ⟨rfl, rfl⟩
    go_wp2_with fail
    go_ret2
    exact ⟨rfl, B3.out⟩
theorem impl_ta (A : Option Addr) (n c : Nat) (f : Nat → Int) (hn : n ≤ 1048576) (w : World) (hA : Nums w w.heap.size A (n * 2) f) :
    Calls Try.prog 22 #[.slice A n c] w fun e w' => e = .returned (.tuple #[.int .i64 (oA n f (Nh.ab (sumN n f n))), .int .i64 (oC n f)]) ∧ Below w.heap.size w w' := by
  have C := Lib.hid (iok A n c f hn w hA)
  cases ho : outB n f
  · rw [oA_no ho, oC_no ho]
    rw [ho] at C
    clear hA
    go_enter Try.func22, Try.ntmps22
    go_wp2_with fail
    refine C.out.mono ?_
    rintro e w2 ⟨rfl, b2⟩
    go_wp2_with fail
    go_ret2
    exact ⟨rfl, b2⟩
  · obtain ⟨hR, h3, h24⟩ := out_is ho
    rw [oA_yes ho, oC_yes ho]
    rw [ho] at C
    have S : Hid (∀ w', Below w.heap.size w w' → Calls Try.prog 45 #[.slice A n c] w' (SdAt n f w')) := Lib.hid fun w' hb => isides A n c f (by omega) h24 w' ((hA.below hb (Nat.le_refl _)).more hb.size)
    have Z : Hid (∀ w' B c', Nums w' w'.heap.size B (n * 4) (sd n f) → Calls Try.prog 51 #[.slice B n c'] w' fun e w2 => e = .returned (.int .i64 (Nh.ab (sumN n f n))) ∧ Below w'.heap.size w' w2) := Lib.hid fun w' B c' h => itwice B n c' f h24 hR w' h
    clear hA hR
    generalize Nh.ab (sumN n f n) = t at Z ⊢
    go_enter Try.func22, Try.ntmps22
    go_wp2_with fail
    refine C.out.mono ?_
    rintro e w2 ⟨rfl, b2⟩
    have B2 := Lib.hid b2
    clear b2
    go_wp2_with fail
    refine (S.out _ B2.out).mono ?_
    rintro e w3 ⟨B, cap, rfl, _, HO, b3⟩
    have B3 := Lib.hid (below_then B2.out b3)
    have C3 := Lib.hid (Z.out w3 B cap HO.out.nums)
    clear b3 HO
    go_wp2_with fail
    refine C3.out.mono ?_
    rintro e w4 ⟨rfl, b4⟩
    have B4 := Lib.hid (below_then B3.out b4)
    clear b4
    go_wp2_with fail
    go_ret2
    exact ⟨rfl, B4.out⟩
end Go.Proofs.Ytggbdpamjjgakaa.Ar
