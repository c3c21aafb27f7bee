/- SpotsInside: spec and program. -/
import Derived.Test.YtggbdpamjjgakaaArLib
namespace Go.Proofs.Ytggbdpamjjgakaa.As
set_option linter.unusedVariables false
open Go.RowKit Ft Is Ge Qb Ol Ot Opl Oq Oi Oj Ok Om Ar

def stp (n : Nat) (f : Nat → Int) (i : Nat) : Int := Nh.gc (Nh.ab (f (nx n i * 2) - f (i * 2))) (Nh.ab (f (nx n i * 2 + 1) - f (i * 2 + 1)))
def stN (n : Nat) (f : Nat → Int) : Nat → Int
  | 0 => 0
  | k + 1 => stN n f k + stp n f k
theorem ab_bd {x : Int} (h : -10000 ≤ x ∧ x ≤ 10000) : 0 ≤ Nh.ab x ∧ Nh.ab x ≤ 10000 := by unfold Nh.ab; split <;> omega
theorem gc_bd {a b : Int} (ha : 0 ≤ a ∧ a ≤ 10000) (hb : 0 ≤ b ∧ b ≤ 10000) : 0 ≤ Nh.gc a b ∧ Nh.gc a b ≤ 10000 := by
  by_cases h : b = 0
  · subst h
    rw [Nh.gc_zero a ha.1]
    exact ha
  · have h1 := Nh.gc_pos (num := a) (show 0 < b by omega)
    have h2 := Nh.gc_le (num := a) (show 0 < b by omega)
    omega
theorem dif_bd {n : Nat} {f : Nat → Int} (h : Rng n f) {i : Nat} (hi : i < n) : (-10000 ≤ f (nx n i * 2) - f (i * 2) ∧ f (nx n i * 2) - f (i * 2) ≤ 10000) ∧ (-10000 ≤ f (nx n i * 2 + 1) - f (i * 2 + 1) ∧ f (nx n i * 2 + 1) - f (i * 2 + 1) ≤ 10000) := by
  have h1 := rng_at h hi
  have h2 := rng_at h (nx_lt (n := n) (i := i) (by omega))
  omega
theorem st_bd {n : Nat} {f : Nat → Int} (h : Rng n f) : ∀ k, k ≤ n → 0 ≤ stN n f k ∧ stN n f k ≤ 10000 * (k : Int)
  | 0, _ => by simp [stN]
  | k + 1, hk => by
    have ih := st_bd h k (by omega)
    obtain ⟨d1, d2⟩ := dif_bd h (i := k) (by omega)
    have := gc_bd (ab_bd d1) (ab_bd d2)
    unfold stN stp
    omega
theorem idist (a b : Int) (ha : 0 ≤ a ∧ a ≤ 10000) (hb : 0 ≤ b ∧ b ≤ 10000) (w : World) : Calls Try.prog 89 #[.int .i64 a, .int .i64 b] w fun e w' => e = .returned (.int .i64 (Nh.ab (b - a))) ∧ Below w.heap.size w w' := by
  unfold Nh.ab
  by_cases h : b - a < 0
  · rw [if_pos h]
    have n1 : ¬ (a < b) := by omega
    have n2 : b ≤ a := by omega
    have n3 : b < a := by omega
    go_enter Try.func89, Try.ntmps89
    go_wp2
    go_ret
    exact ⟨ret_int (by omega), Below.refl _ _⟩
  · rw [if_neg h]
    have n1 : ¬ (b < a) := by omega
    have n2 : a ≤ b := by omega
    by_cases h2 : a < b
    · go_enter Try.func89, Try.ntmps89
      go_wp2
      go_ret
      exact ⟨ret_int (by omega), Below.refl _ _⟩
    · have e : a = b := by omega
      subst e
      go_enter Try.func89, Try.ntmps89
      go_wp2
      go_ret
      exact ⟨ret_int (by omega), Below.refl _ _⟩
set_option maxRecDepth 100000 in
theorem isteps (a b : Pt) (ha : rgB a = true) (hb : rgB b = true) (w : World) : Calls Try.prog 73 #[sdV a b] w fun e w' => e = .returned (.int .i64 (Nh.gc (Nh.ab (b.1 - a.1)) (Nh.ab (b.2 - a.2)))) ∧ Below w.heap.size w w' := by
  obtain ⟨q1, q2⟩ := rg_spec ha
  obtain ⟨q3, q4⟩ := rg_spec hb
  have D1 := Lib.hid fun w => idist a.1 b.1 q1 q3 w
  have D2 := Lib.hid fun w => idist a.2 b.2 q2 q4 w
  have t1 := ab_bd (x := b.1 - a.1) (by omega)
  have t2 := ab_bd (x := b.2 - a.2) (by omega)
  have G := Lib.hid fun w => Fr.icd (Nh.ab (b.1 - a.1)) (Nh.ab (b.2 - a.2)) t1.1 t2.1 (by omega) (by omega) w
  generalize Nh.gc (Nh.ab (b.1 - a.1)) (Nh.ab (b.2 - a.2)) = g at G ⊢
  generalize Nh.ab (b.1 - a.1) = d1 at D1 G
  generalize Nh.ab (b.2 - a.2) = d2 at D2 G
  obtain ⟨a0, a1⟩ := a
  obtain ⟨b0, b1⟩ := b
  clear ha hb q1 q2 q3 q4 t1 t2
  simp only [sdV] at *
  have k0 := heap_alloc_new w (.cells #[.int .i64 a0, .int .i64 a1, .int .i64 b0, .int .i64 b1] 64)
  have B0 := Lib.hid (below_box w (.cells #[.int .i64 a0, .int .i64 a1, .int .i64 b0, .int .i64 b1] 64))
  go_enter Try.func73, Try.ntmps73
  go_upto_region 1 with fail
  generalize w.alloc _ = w3 at k0 B0 ⊢
  obtain ⟨x0, x1, x2, x3⟩ := blk4 k0
  clear k0
  have x0 := bey_cell x0
  have x1 := bey_cell x1
  have x2 := bey_cell x2
  have x3 := bey_cell x3
  refine wp_region_below (by kernel_rfl) (by kernel_rfl) ?_
  repeat (go_big_quiet_step (first | (go_at_call 89; first | (with_reducible exact bey_of _ (D1.out _)) | (with_reducible exact bey_of _ (D2.out _))) | (go_at_call 88; (with_reducible exact bey_of _ (G.out _)))))
  refine wpQuiet_nil ?_
  rintro _ ⟨pq, rfl⟩
  have HQ := Lib.hid (below_then B0.out pq.h)
  generalize pq.to = wq at HQ ⊢
  clear x0 x1 x2 x3
  go_wp2_with fail
  go_ret
  exact ⟨rfl, HQ.out⟩
noncomputable def inN (n : Nat) (f : Nat → Int) : Int := Int.tdiv (Nh.ab (sumN n f n) - stN n f n + 2) 2
theorem ab_big {x : Int} (h : -2400000000 ≤ x ∧ x ≤ 2400000000) : 0 ≤ Nh.ab x ∧ Nh.ab x ≤ 2400000000 := by unfold Nh.ab; split <;> omega
/-- What SpotsInside hands back. -/
def SiAt (n : Nat) (f : Nat → Int) (w : World) (e : Ending) (w' : World) : Prop := e = .returned (.tuple #[.int .i64 (oA n f (inN n f)), .int .i64 (oA n f (stN n f n)), .int .i64 (oC n f)]) ∧ Below w.heap.size w w'
set_option maxRecDepth 100000 in
set_option maxHeartbeats 2000000 in
theorem spec_si (A : Option Addr) (n c : Nat) (f : Nat → Int) (hn : n ≤ 1048576) (w : World) (hA : Nums w w.heap.size A (n * 2) f) :
    Calls Try.prog 41 #[.slice A n c] w (SiAt n f w) := by
  have C := Lib.hid (sok A n c f hn w hA)
  cases ho : outB n f
  · have HN : Hid (∀ w', Below w.heap.size w w' → SiAt n f w (.returned (.tuple #[.int .i64 0, .int .i64 0, .int .i64 1])) w') := Lib.hid fun w' hb => by
      unfold SiAt
      rw [oA_no ho, oA_no ho, oC_no ho]
      exact ⟨rfl, hb⟩
    rw [ho] at C
    generalize SiAt n f w = Q at HN ⊢
    clear hA
    go_enter Try.func41, Try.ntmps41
    go_wp2_with fail
    refine C.out.mono ?_
    rintro e w2 ⟨rfl, b2⟩
    go_wp2_with fail
    exact bodyPost_ret (v := .tuple #[.int .i64 0, .int .i64 0, .int .i64 1]) (by simp [results, Try.results41, go_sem]) rfl (HN.out _ b2)
  · obtain ⟨hR, h3, h24⟩ := out_is ho
    have HY : Hid (∀ w', Below w.heap.size w w' → SiAt n f w (.returned (.tuple #[.int .i64 (Int.tdiv (Nh.ab (sumN n f n) - stN n f n + 2) 2), .int .i64 (stN n f n), .int .i64 0])) w') := Lib.hid fun w' hb => by
      unfold SiAt
      rw [oA_yes ho, oA_yes ho, oC_yes ho]
      exact ⟨rfl, hb⟩
    rw [ho] at C
    generalize SiAt n f w = Q at HY ⊢
    have HA := Lib.hid hA
    have HR := Lib.hid hR
    have SM : Hid (∀ w', Below w.heap.size w w' → Calls Try.prog 50 #[.slice A n c] w' fun e w2 => e = .returned (.int .i64 (sumN n f n)) ∧ Below w'.heap.size w' w2) := Lib.hid fun w' hb => ssum A n c f h24 hR w' ((hA.below hb (Nat.le_refl _)).more hb.size)
    have q := sum_bd hR n (Nat.le_refl _)
    have q0 : -2400000000 ≤ sumN n f n ∧ sumN n f n ≤ 2400000000 := by omega
    have Z := Lib.hid fun w => Fr.ssize (sumN n f n) (by omega) w
    have q1 := ab_big q0
    have HS : Hid (∀ k, stN n f (k + 1) = stN n f k + Nh.gc (Nh.ab (f (nx n k * 2) - f (k * 2))) (Nh.ab (f (nx n k * 2 + 1) - f (k * 2 + 1)))) := Lib.hid fun k => rfl
    have HB0 : Hid (∀ k, k ≤ n → 0 ≤ stN n f k ∧ stN n f k ≤ 10000 * (k : Int)) := Lib.hid fun k hk => st_bd hR k hk
    have HS0 : Hid (stN n f 0 = 0) := Lib.hid rfl
    clear hA hR q q0 ho
    generalize Nh.ab (sumN n f n) = T at HY Z q1
    generalize sumN n f n = s at SM Z
    generalize stN n f = S at HY HS HB0 HS0
    go_enter Try.func41, Try.ntmps41
    go_wp2_with fail
    refine C.out.mono ?_
    rintro e w2 ⟨rfl, b2⟩
    have B2 := Lib.hid b2
    have hs2 := b2.size
    clear b2 C
    go_wp2_with fail
    go_loopw [5, 6, 7] (fun s i _ wr => ∃ k : Nat, k ≤ n ∧ s = .int .i64 (S k) ∧ i = .int .i64 (k : Int) ∧ Hid (Below w.heap.size w wr)) (fun _ i _ _ => n - (intOf i).toNat)
    case atStart => exact ⟨0, Nat.zero_le _, by rw [HS0.out], rfl, B2⟩
    case round =>
      obtain ⟨k, hk, rfl, rfl, HB⟩ := hrel
      have e0 : (0 : Int) ≤ (k : Int) := Int.natCast_nonneg _
      by_cases hlt : k < n
      · obtain ⟨b, off, rfl, hb, hc⟩ := HA.out (by omega)
        have hc' : ∀ i, i < n * 2 → wr.cell? ⟨b, off + i, none⟩ = some (.int .i64 (f i)) := fun i hi => (HB.out.cell (p := ⟨b, off + i, none⟩) hb).trans (hc i hi)
        have hsz := HB.out.size
        have hm1 := nx_lt (n := n) (i := k) (by omega)
        obtain ⟨a0, a1⟩ := nums_two hc' hlt
        obtain ⟨b0, b1⟩ := nums_two hc' hm1
        have i1 := nx_int n k
        have e1 : (k : Int) < (n : Int) := by omega
        have e2 : (n : Int) ≤ 24 := by omega
        have e3 : ((n : Int) == 0) = false := by simp; omega
        have hbr : b < wr.heap.size := by omega
        have HSk := Lib.hid (HS.out k)
        have q2 := HB0.out k hk
        obtain ⟨d1, d2⟩ := dif_bd HR.out hlt
        have t1 := ab_bd d1
        have t2 := ab_bd d2
        have t3 := gc_bd t1 t2
        have w1 := wr_in (x := f (nx n k * 2) - f (k * 2)) (by omega)
        have w2 := wr_in (x := f (nx n k * 2 + 1) - f (k * 2 + 1)) (by omega)
        have Z1 := Lib.hid fun w => Fr.ssize (f (nx n k * 2) - f (k * 2)) (by omega) w
        have Z2 := Lib.hid fun w => Fr.ssize (f (nx n k * 2 + 1) - f (k * 2 + 1)) (by omega) w
        have G := Lib.hid fun w => Fr.sgcd (Nh.ab (f (nx n k * 2) - f (k * 2))) (Nh.ab (f (nx n k * 2 + 1) - f (k * 2 + 1))) t1.1 t2.1 (by omega) (by omega) w
        generalize Nh.gc (Nh.ab (f (nx n k * 2) - f (k * 2))) (Nh.ab (f (nx n k * 2 + 1) - f (k * 2 + 1))) = g at G t3 HSk
        generalize Nh.ab (f (nx n k * 2) - f (k * 2)) = y1 at Z1 G
        generalize Nh.ab (f (nx n k * 2 + 1) - f (k * 2 + 1)) = y2 at Z2 G
        generalize f (k * 2) = px at a0 w1 Z1
        generalize f (k * 2 + 1) = py at a1 w2 Z2
        generalize f (nx n k * 2) = qx at b0 w1 Z1
        generalize f (nx n k * 2 + 1) = qy at b1 w2 Z2
        have w4 := wr_in (x := S k + g) (by omega)
        have a0' : (wr.alloc (spC qx qy 38)).cell? ⟨b, off + k * 2, none⟩ = some (.int .i64 px) := Lib.cell?_alloc_some _ a0
        have a1' : (wr.alloc (spC qx qy 38)).cell? ⟨b, off + k * 2 + 1, none⟩ = some (.int .i64 py) := Lib.cell?_alloc_some _ a1
        have k5 := Lib.hid (heap_alloc_new wr (spC qx qy 38))
        have HB5 := Lib.hid (below_then HB.out (below_box wr (spC qx qy 38)))
        clear hc hc' hk q2 d1 d2 t1 t2 t3 HS
        go_upto_region 8 with fail
        generalize hs5 : wr.heap.size = s5 at k5 hbr ⊢
        generalize hw5 : wr.alloc _ = w5 at k5 HB5 a0' a1' ⊢
        clear hw5 hs5 a0 a1 b0 b1
        obtain ⟨b0, b1⟩ := blk2 k5.out
        have a0' := bey_cell a0'
        have a1' := bey_cell a1'
        have b0 := bey_cell b0
        have b1 := bey_cell b1
        refine wp_region_below (by kernel_rfl) (by kernel_rfl) ?_
        repeat (go_big_quiet_step (first | (go_at_call 49; first | (with_reducible exact bey_same _ (Z1.out _)) | (with_reducible exact bey_same _ (Z2.out _))) | (go_at_call 72; (with_reducible exact bey_same _ (G.out _)))))
        refine wpQuiet_nil ?_
        rintro _ ⟨pq, rfl⟩
        have HQ := Lib.hid (below_then HB5.out pq.h)
        generalize pq.to = wq at HQ ⊢
        rw [← HSk.out]
        clear a0' a1' b0 b1 w1 w2 w4 HSk
        go_wp2_with fail
        go_roundw
        case rel => exact ⟨k + 1, by omega, rfl, by go_num, HQ⟩
        case measure => simp [intOf]; omega
      · obtain rfl : n = k := by omega
        have e1 : ¬ (n : Int) < (n : Int) := by omega
        have S1 := Lib.hid (SM.out _ HB.out)
        have q2 := HB0.out n (Nat.le_refl _)
        have q3 : S n ≤ 240000 := by omega
        generalize S n = y at HY q2 q3 ⊢
        have w1 := wr_in (x := T - y) (by omega)
        have w2 := wr_in (x := T - y + 2) (by omega)
        clear hk HS HS0 HB0 SM
        go_wp2_with fail
        refine S1.out.mono ?_
        rintro e w5 ⟨rfl, b5⟩
        have B5 := Lib.hid (below_then HB.out b5)
        clear b5
        go_wp2_with fail
        refine (Z.out _).mono ?_
        rintro e w' ⟨rfl, rfl⟩
        go_wp2_with fail
        exact bodyPost_ret (v := .tuple #[.int .i64 ((T - y + 2).tdiv 2), .int .i64 y, .int .i64 0]) (by simp [results, Try.results41, go_sem]) rfl (HY.out _ B5.out)
set_option maxRecDepth 100000 in
set_option maxHeartbeats 2000000 in
theorem impl_si (A : Option Addr) (n c : Nat) (f : Nat → Int) (hn : n ≤ 1048576) (w : World) (hA : Nums w w.heap.size A (n * 2) f) :
    Calls Try.prog 42 #[.slice A n c] w (SiAt n f w) := by
  have C := Lib.hid (iok A n c f hn w hA)
  cases ho : outB n f
  · have HN : Hid (∀ w', Below w.heap.size w w' → SiAt n f w (.returned (.tuple #[.int .i64 0, .int .i64 0, .int .i64 1])) w') := Lib.hid fun w' hb => by
      unfold SiAt
      rw [oA_no ho, oA_no ho, oC_no ho]
      exact ⟨rfl, hb⟩
    rw [ho] at C
    generalize SiAt n f w = Q at HN ⊢
    clear hA
    go_enter Try.func42, Try.ntmps42
    go_wp2_with fail
    refine C.out.mono ?_
    rintro e w2 ⟨rfl, b2⟩
    go_wp2_with fail
    exact bodyPost_ret (v := .tuple #[.int .i64 0, .int .i64 0, .int .i64 1]) (by simp [results, Try.results42, go_sem]) rfl (HN.out _ b2)
  · obtain ⟨hR, h3, h24⟩ := out_is ho
    have HY : Hid (∀ w', Below w.heap.size w w' → SiAt n f w (.returned (.tuple #[.int .i64 (Int.tdiv (Nh.ab (sumN n f n) - stN n f n + 2) 2), .int .i64 (stN n f n), .int .i64 0])) w') := Lib.hid fun w' hb => by
      unfold SiAt
      rw [oA_yes ho, oA_yes ho, oC_yes ho]
      exact ⟨rfl, hb⟩
    rw [ho] at C
    generalize SiAt n f w = Q at HY ⊢
    have HR := Lib.hid hR
    have SD : Hid (∀ w', Below w.heap.size w w' → Calls Try.prog 45 #[.slice A n c] w' (SdAt n f w')) := Lib.hid fun w' hb => isides A n c f (by omega) h24 w' ((hA.below hb (Nat.le_refl _)).more hb.size)
    have TW : Hid (∀ w' B c', Nums w' w'.heap.size B (n * 4) (sd n f) → Calls Try.prog 51 #[.slice B n c'] w' fun e w2 => e = .returned (.int .i64 (Nh.ab (sumN n f n))) ∧ Below w'.heap.size w' w2) := Lib.hid fun w' B c' h => itwice B n c' f h24 hR w' h
    have q := sum_bd hR n (Nat.le_refl _)
    have q0 : -2400000000 ≤ sumN n f n ∧ sumN n f n ≤ 2400000000 := by omega
    have q1 := ab_big q0
    have HS : Hid (∀ k, stN n f (k + 1) = stN n f k + Nh.gc (Nh.ab (f (nx n k * 2) - f (k * 2))) (Nh.ab (f (nx n k * 2 + 1) - f (k * 2 + 1)))) := Lib.hid fun k => rfl
    have HB0 : Hid (∀ k, k ≤ n → 0 ≤ stN n f k ∧ stN n f k ≤ 10000 * (k : Int)) := Lib.hid fun k hk => st_bd hR k hk
    have HS0 : Hid (stN n f 0 = 0) := Lib.hid rfl
    clear hA hR q q0 ho
    generalize Nh.ab (sumN n f n) = T at HY TW q1
    generalize stN n f = S at HY HS HB0 HS0
    go_enter Try.func42, Try.ntmps42
    go_wp2_with fail
    refine C.out.mono ?_
    rintro e w2 ⟨rfl, b2⟩
    have B2 := Lib.hid b2
    clear b2 C
    go_wp2_with fail
    refine (SD.out _ B2.out).mono ?_
    rintro e w3 ⟨B, cap, rfl, _, HO, b3⟩
    have B3 := Lib.hid (below_then B2.out b3)
    clear b3 SD B2
    have HA := Lib.hid HO.out.nums
    go_wp2_with fail
    go_loopw [6, 8, 16] (fun s _ i wr => ∃ k : Nat, k ≤ n ∧ s = .int .i64 (S k) ∧ i = .int .i64 (k : Int) ∧ Hid (Below w3.heap.size w3 wr)) (fun _ _ i _ => n - (intOf i).toNat)
    case atStart => exact ⟨0, Nat.zero_le _, by rw [HS0.out], rfl, Lib.hid (Below.refl _ _)⟩
    case round =>
      obtain ⟨k, hk, rfl, rfl, HB⟩ := hrel
      have e0 : (0 : Int) ≤ (k : Int) := Int.natCast_nonneg _
      by_cases hlt : k < n
      · obtain ⟨b, off, rfl, hb, hc⟩ := HA.out (by omega)
        have hc' : ∀ i, i < n * 4 → wr.cell? ⟨b, off + i, none⟩ = some (.int .i64 (sd n f i)) := fun i hi => (HB.out.cell (p := ⟨b, off + i, none⟩) hb).trans (hc i hi)
        obtain ⟨a0, a1, a2, a3⟩ := four_at hc' hlt
        have e1 : (k : Int) < (n : Int) := by omega
        have e2 : (n : Int) ≤ 24 := by omega
        have HSk := Lib.hid (HS.out k)
        have q2 := HB0.out k hk
        obtain ⟨d1, d2⟩ := dif_bd HR.out hlt
        have t3 := gc_bd (ab_bd d1) (ab_bd d2)
        have W := Lib.hid fun w => isteps (f (k * 2), f (k * 2 + 1)) (f (nx n k * 2), f (nx n k * 2 + 1)) (rng_pt HR.out hlt) (rng_pt HR.out (nx_lt (by omega))) w
        simp only [sdV] at W
        generalize Nh.gc (Nh.ab (f (nx n k * 2) - f (k * 2))) (Nh.ab (f (nx n k * 2 + 1) - f (k * 2 + 1))) = g at W t3 HSk
        generalize f (k * 2) = px at a0 W
        generalize f (k * 2 + 1) = py at a1 W
        generalize f (nx n k * 2) = qx at a2 W
        generalize f (nx n k * 2 + 1) = qy at a3 W
        have w4 := wr_in (x := S k + g) (by omega)
        have HB5 := Lib.hid (below_then HB.out (below_box wr (.cells #[.int .i64 px, .int .i64 py, .int .i64 qx, .int .i64 qy] 64)))
        clear hc hc' hk q2 d1 d2 t3 HS
        go_wp2_with fail
        refine (W.out _).mono ?_
        rintro e w5 ⟨rfl, b5⟩
        have HB6 := Lib.hid (below_then HB5.out b5)
        clear a0 a1 a2 a3 b5 HB5
        go_wp2_with fail
        go_roundw
        case rel => exact ⟨k + 1, by omega, by rw [HSk.out], by go_num, HB6⟩
        case measure => simp [intOf]; omega
      · obtain rfl : n = k := by omega
        have e1 : ¬ (n : Int) < (n : Int) := by omega
        have S1 := Lib.hid (TW.out _ B cap (HO.out.below HB.out).nums)
        have q2 := HB0.out n (Nat.le_refl _)
        have q3 : S n ≤ 240000 := by omega
        generalize S n = y at HY q2 q3 ⊢
        have w1 := wr_in (x := T - y) (by omega)
        have w2 := wr_in (x := T - y + 2) (by omega)
        clear hk HS HS0 HB0 TW HO HA
        go_wp2_with fail
        refine S1.out.mono ?_
        rintro e w5 ⟨rfl, b5⟩
        have B5 := Lib.hid (below_then (below_then B3.out HB.out) b5)
        clear b5
        go_wp2_with fail
        exact bodyPost_ret (v := .tuple #[.int .i64 ((T - y + 2).tdiv 2), .int .i64 y, .int .i64 0]) (by simp [results, Try.results42, go_sem]) rfl (HY.out _ B5.out)
end Go.Proofs.Ytggbdpamjjgakaa.As
