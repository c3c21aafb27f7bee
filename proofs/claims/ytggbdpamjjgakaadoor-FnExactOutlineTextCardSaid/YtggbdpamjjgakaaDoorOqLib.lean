/- The spec's tests whether a list is an outline. -/
import Derived.Test.YtggbdpamjjgakaaDoorOpLib
namespace Go.Proofs.YtggbdpamjjgakaaDoor.Oq
set_option linter.unusedVariables false
open Go.RowKit Ft Is Ge Qb Ol Ot Opl

def Row (n : Nat) (f : Nat → Int) (i : Nat) : Prop := bendB n f i = true ∧ ∀ k, i + 2 ≤ k → k < n → ¬ (i = 0 ∧ k + 1 = n) → pairB n f i k = false
theorem nx_lt {n i : Nat} (h : 0 < n) : nx n i < n := Nat.mod_lt _ h
theorem nx_int (n i : Nat) : ((i : Int) + 1) % (n : Int) = ((nx n i : Nat) : Int) := by unfold nx; simp
def nx2 (n i : Nat) : Nat := (i + 2) % n
theorem nx2_lt {n i : Nat} (h : 0 < n) : nx2 n i < n := Nat.mod_lt _ h
theorem nx2_int (n i : Nat) : ((i : Int) + 2) % (n : Int) = ((nx2 n i : Nat) : Int) := by unfold nx2; simp
theorem bend_nx (n : Nat) (f : Nat → Int) (i : Nat) : bendB n f i = decide (cr (f (i * 2), f (i * 2 + 1)) (f (nx n i * 2), f (nx n i * 2 + 1)) (f (nx2 n i * 2), f (nx2 n i * 2 + 1)) ≠ 0) := rfl
theorem rng_pt {n : Nat} {f : Nat → Int} (h : Rng n f) {i : Nat} (hi : i < n) : rgB (f (i * 2), f (i * 2 + 1)) = true := h i hi
theorem nums_two {w : World} {b off n : Nat} {f : Nat → Int} (hc : ∀ i, i < n * 2 → w.cell? ⟨b, off + i, none⟩ = some (.int .i64 (f i))) {k : Nat} (hk : k < n) :
    w.cell? ⟨b, off + k * 2, none⟩ = some (.int .i64 (f (k * 2))) ∧ w.cell? ⟨b, off + k * 2 + 1, none⟩ = some (.int .i64 (f (k * 2 + 1))) :=
  ⟨hc (k * 2) (by omega), hc (k * 2 + 1) (by omega)⟩
set_option maxRecDepth 100000 in
set_option maxHeartbeats 4000000 in
theorem ssimple (A : Option Addr) (n c : Nat) (f : Nat → Int) (h3 : 3 ≤ n) (h24 : n ≤ 24) (hR : Rng n f) (w : World) (hA : Nums w w.heap.size A (n * 2) f) :
    Calls Tryd.prog 17 #[.slice A n c] w fun e w' => e = .returned (.bool (tv (Simp n f))) ∧ Below w.heap.size w w' := by
  have HA := Lib.hid hA
  have HR := Lib.hid hR
  have PY : Hid ((∀ j, j < n → Row n f j) → tv (Simp n f) = true) := Lib.hid fun h => tv_yes h
  have PN : Hid (∀ j, j < n → ¬ Row n f j → tv (Simp n f) = false) := Lib.hid fun j hj hn => tv_no fun h => hn (h j hj)
  clear hA hR
  generalize tv (Simp n f) = r at PY PN ⊢
  go_enter Tryd.func17, Tryd.ntmps17
  go_wp2_with fail
  go_loopw [4, 5, 6, 7, 8] (fun i _ _ _ _ wr => ∃ k : Nat, k ≤ n ∧ i = .int .i64 (k : Int) ∧ Hid (Below w.heap.size w wr) ∧ Hid (∀ j, j < k → Row n f j)) (fun i _ _ _ _ _ => n - (intOf i).toNat)
  case atStart => exact ⟨0, Nat.zero_le _, rfl, Lib.hid (Below.refl _ _), Lib.hid fun j hj => by omega⟩
  case round =>
    obtain ⟨k, hk, rfl, HB, HD⟩ := hrel
    by_cases hlt : k < n
    · obtain ⟨b, off, rfl, hb, hc⟩ := HA.out (by omega)
      have hc' : ∀ i, i < n * 2 → wr.cell? ⟨b, off + i, none⟩ = some (.int .i64 (f i)) := fun i hi => (HB.out.cell (p := ⟨b, off + i, none⟩) hb).trans (hc i hi)
      have hsz := HB.out.size
      have hm1 := nx_lt (n := n) (i := k) (by omega)
      have hm2 := nx2_lt (n := n) (i := k) (by omega)
      obtain ⟨a0, a1⟩ := nums_two hc' hlt
      obtain ⟨b0, b1⟩ := nums_two hc' hm1
      obtain ⟨c0, c1⟩ := nums_two hc' hm2
      have CR := Lib.hid fun w => scr (f (k * 2), f (k * 2 + 1)) (f (nx n k * 2), f (nx n k * 2 + 1)) (f (nx2 n k * 2), f (nx2 n k * 2 + 1)) (rng_pt HR.out hlt) (rng_pt HR.out hm1) (rng_pt HR.out hm2) w
      have i1 := nx_int n k
      have i2 := nx2_int n k
      have e0 : (0 : Int) ≤ (k : Int) := Int.natCast_nonneg _
      have e1 : (k : Int) < (n : Int) := by omega
      have e2 : (n : Int) ≤ 24 := by omega
      have e3 : ((n : Int) == 0) = false := by simp; omega
      have e4 : ((n : Int) != 0) = true := by simp; omega
      have hbr : b < wr.heap.size := by omega
      have hcr : ∀ i, i < n * 2 → wr.cell? ⟨b, off + i, none⟩ = some (.int .i64 (f i)) := hc'
      have HC := Lib.hid hcr
      clear hc hc' hk hcr
      have PNk := Lib.hid (PN.out k hlt)
      have HBE : Hid (cr (f (k * 2), f (k * 2 + 1)) (f (nx n k * 2), f (nx n k * 2 + 1)) (f (nx2 n k * 2), f (nx2 n k * 2 + 1)) = 0 → ¬ Row n f k) := Lib.hid fun h hr => by
        have := hr.1
        rw [bend_nx, h] at this
        simp at this
      have HBY : Hid (cr (f (k * 2), f (k * 2 + 1)) (f (nx n k * 2), f (nx n k * 2 + 1)) (f (nx2 n k * 2), f (nx2 n k * 2 + 1)) ≠ 0 → bendB n f k = true) := Lib.hid fun h => by
        rw [bend_nx]
        simpa using h
      have MT : Hid (∀ m, m < n → ∀ w, Calls Tryd.prog 28 #[spV (f (k * 2)) (f (k * 2 + 1)), spV (f (nx n k * 2)) (f (nx n k * 2 + 1)), spV (f (m * 2)) (f (m * 2 + 1)), spV (f (nx n m * 2)) (f (nx n m * 2 + 1))] w fun e w' => e = .returned (.bool (pairB n f k m)) ∧ Below w.heap.size w w') :=
        Lib.hid fun m hm w => smeet (f (k * 2), f (k * 2 + 1)) (f (nx n k * 2), f (nx n k * 2 + 1)) (f (m * 2), f (m * 2 + 1)) (f (nx n m * 2), f (nx n m * 2 + 1)) (rng_pt HR.out hlt) (rng_pt HR.out hm1) (rng_pt HR.out hm) (rng_pt HR.out (nx_lt (by omega))) w
      generalize hcv : cr (f (k * 2), f (k * 2 + 1)) (f (nx n k * 2), f (nx n k * 2 + 1)) (f (nx2 n k * 2), f (nx2 n k * 2 + 1)) = cv at CR HBE HBY
      clear hcv
      generalize hpx : f (k * 2) = px, f (k * 2 + 1) = py at a0 a1 CR MT
      generalize hqx : f (nx n k * 2) = qx, f (nx n k * 2 + 1) = qy at b0 b1 CR MT
      generalize hrx : f (nx2 n k * 2) = rx, f (nx2 n k * 2 + 1) = ry at c0 c1 CR
      clear hpx hqx hrx
      obtain ⟨ka, kb, kc⟩ := three wr (spC px py 31) (spC qx qy 31) (spC rx ry 31)
      have B3 := Lib.hid (below3 wr (spC px py 31) (spC qx qy 31) (spC rx ry 31))
      have KA := Lib.hid ka
      have KB := Lib.hid kb
      have KC := Lib.hid kc
      clear ka kb kc PN
      simp only [spV] at CR MT
      go_upto_region 8 with fail
      generalize ((wr.alloc _).alloc _).alloc _ = w3 at KA KB KC B3 ⊢
      clear a0 a1 b0 b1 c0 c1
      obtain ⟨a0, a1⟩ := blk2 KA.out
      obtain ⟨b0, b1⟩ := blk2 KB.out
      obtain ⟨c0, c1⟩ := blk2 KC.out
      go_wp2_with fail
      refine (CR.out _).mono ?_
      rintro e w4 ⟨rfl, b4⟩
      have B4 := Lib.hid (below_then B3.out b4)
      have KA4 := Lib.hid (blk_keep b4 KA.out)
      have KB4 := Lib.hid (blk_keep b4 KB.out)
      clear KA KB KC B3 a0 a1 b0 b1 c0 c1 b4 CR
      by_cases hz : cv = 0
      · have hz' : (cv == 0) = true := by simpa using hz
        have HE := Lib.hid (PNk.out (HBE.out hz))
        have HF := Lib.hid (below_then HB.out B4.out)
        clear hz KA4 KB4 PNk HBE HBY MT HC
        go_wp2_with fail
        go_ret
        exact ⟨Ft.ret_bool HE.out.symm, HF.out⟩
      · have hz' : (cv == 0) = false := by simpa using hz
        have HY := Lib.hid (HBY.out hz)
        clear hz HBE HBY
        go_wp2_with fail
        go_loopg [8] n (fun gg q wv => ∃ m : Nat, k + 2 ≤ m ∧ q = .int .i64 (m : Int) ∧ m ≤ n + 1 ∧ n - m ≤ gg ∧ Hid (Below w4.heap.size w4 wv) ∧ Hid (∀ j, k + 2 ≤ j → j < m → ¬ (k = 0 ∧ j + 1 = n) → pairB n f k j = false))
        case atStart => exact ⟨k + 2, Nat.le_refl _, by go_num, by omega, by omega, Lib.hid (Below.refl _ _), Lib.hid fun j h1 h2 => by omega⟩
        case round =>
          obtain ⟨m, hkm, rfl, hmn, hgg, HB5, HP⟩ := hrel
          have f0 : (0 : Int) ≤ (m : Int) := Int.natCast_nonneg _
          have f2 : (m : Int) ≤ 25 := by omega
          by_cases hml : m < n
          · have f1 : (m : Int) < (n : Int) := by omega
            have i5 := nx_int n m
            have hm5 := nx_lt (n := n) (i := m) (by omega)
            by_cases hcon : k = 0 ∧ m + 1 = n
            · have g1 : ((k : Int) == 0) = true := by rw [beq_iff_eq]; omega
              have g2 : ((m : Int) == (n : Int) - 1) = true := by rw [beq_iff_eq]; omega
              have HP' : Hid (∀ j, k + 2 ≤ j → j < m + 1 → ¬ (k = 0 ∧ j + 1 = n) → pairB n f k j = false) := Lib.hid fun j h1 h2 h3 => by
                by_cases e : j = m
                · subst e; exact absurd hcon h3
                · exact HP.out j h1 (by omega) h3
              clear hcon
              go_wp2_with fail
              go_roundg (n - (m + 1))
              case measure => omega
              case rel => exact ⟨m + 1, by omega, by go_num, by omega, by omega, HB5, HP'⟩
            · have R : (((k : Int) == 0) = false) ∨ (((k : Int) == 0) = true ∧ ((m : Int) == (n : Int) - 1) = false) := by
                by_cases e : k = 0
                · refine .inr ⟨by rw [beq_iff_eq]; omega, ?_⟩
                  rw [beq_eq_false_iff_ne]
                  omega
                · refine .inl ?_
                  rw [beq_eq_false_iff_ne]
                  omega
              have MM := Lib.hid fun w => MT.out m hml w
              have HNo : Hid (pairB n f k m = true → r = false) := Lib.hid fun h => PNk.out fun hr => by
                have := hr.2 m hkm hml hcon
                rw [h] at this
                cases this
              have HP' : Hid (pairB n f k m = false → ∀ j, k + 2 ≤ j → j < m + 1 → ¬ (k = 0 ∧ j + 1 = n) → pairB n f k j = false) := Lib.hid fun h j h1 h2 h3 => by
                by_cases e : j = m
                · subst e; exact h
                · exact HP.out j h1 (by omega) h3
              have hb5 : ∀ i, i < n * 2 → wr.cell? ⟨b, off + i, none⟩ = some (.int .i64 (f i)) := fun i hi => ((below_then B4.out HB5.out).cell (p := ⟨b, off + i, none⟩) hbr).trans (HC.out i hi)
              obtain ⟨c0, c1⟩ := nums_two hb5 hml
              obtain ⟨d0, d1⟩ := nums_two hb5 hm5
              obtain ⟨a0, a1⟩ := blk2 (blk_keep HB5.out KA4.out)
              obtain ⟨b0, b1⟩ := blk2 (blk_keep HB5.out KB4.out)
              generalize hpx : f (m * 2) = tx, f (m * 2 + 1) = ty at c0 c1 MM
              generalize hqx : f (nx n m * 2) = sx, f (nx n m * 2 + 1) = sy at d0 d1 MM
              clear hpx hqx hb5 hcon
              have a0 := bey_cell a0
              have a1 := bey_cell a1
              have b0 := bey_cell b0
              have b1 := bey_cell b1
              have c0 := bey_cell c0
              have c1 := bey_cell c1
              have d0 := bey_cell d0
              have d1 := bey_cell d1
              generalize hpv : pairB n f k m = pv at MM HNo HP'
              clear hpv
              rcases R with g1 | ⟨g1, g2⟩
              all_goals
                go_upto_region 14 with fail
                refine wp_region_below (by kernel_rfl) (by kernel_rfl) ?_
                repeat (go_big_quiet_step (first | (go_at_call 28; (with_reducible exact bey_of _ (MM.out _)))))
                refine wpQuiet_nil ?_
                rintro _ ⟨pq, rfl⟩
                have HQ := Lib.hid (below_then HB5.out pq.h)
                generalize pq.to = wq at HQ ⊢
                clear a0 a1 b0 b1 c0 c1 d0 d1
                cases pv
                · have HPP := Lib.hid (HP'.out (by first | rfl | trivial))
                  clear HP' HNo
                  go_wp2_with fail
                  go_roundg (n - (m + 1))
                  case measure => omega
                  case rel => exact ⟨m + 1, by omega, by go_num, by omega, by omega, HQ, HPP⟩
                · have HE := Lib.hid (HNo.out (by first | rfl | trivial))
                  have HF := Lib.hid (below_then (below_then HB.out B4.out) HQ.out)
                  clear HP' HNo
                  go_wp2_with fail
                  go_ret
                  exact ⟨Ft.ret_bool HE.out.symm, HF.out⟩
          · have HN : Hid (Row n f k) := Lib.hid ⟨HY.out, fun j h1 h2 h3 => HP.out j h1 (by omega) h3⟩
            have HD' : Hid (∀ j, j < k + 1 → Row n f j) := Lib.hid fun j hj => by
              by_cases e : j = k
              · rw [e]; exact HN.out
              · exact HD.out j (by omega)
            have HF := Lib.hid (below_then (below_then HB.out B4.out) HB5.out)
            have f3 : ¬ (m : Int) < (n : Int) := by omega
            clear HP KA4 KB4 HN HD MT PNk
            go_wp2_with fail
            go_roundw
            case rel => exact ⟨k + 1, by omega, by go_num, HF, HD'⟩
            case measure => simp [intOf]; omega
    · have HE := Lib.hid (PY.out fun j hj => HD.out j (by omega))
      have e3 : ¬ (k : Int) < (n : Int) := by omega
      go_wp2_with fail
      go_ret
      exact ⟨Ft.ret_bool HE.out.symm, HB.out⟩
theorem rg_at (n : Nat) (f : Nat → Int) (i : Nat) : rgB (pt f i) = (inB (f (i * 2)) 0 10000 && inB (f (i * 2 + 1)) 0 10000) := rfl
set_option maxRecDepth 100000 in
set_option maxHeartbeats 2000000 in
theorem sok (A : Option Addr) (n c : Nat) (f : Nat → Int) (hn : n ≤ 1048576) (w : World) (hA : Nums w w.heap.size A (n * 2) f) :
    Calls Tryd.prog 9 #[.slice A n c] w fun e w' => e = .returned (.bool (outB n f)) ∧ Below w.heap.size w w' := by
  have HA := Lib.hid hA
  have PN : Hid (∀ j, j < n → (inB (f (j * 2)) 0 10000 && inB (f (j * 2 + 1)) 0 10000) = false → outB n f = false) := Lib.hid fun j hj hn => tv_no fun h => by
    have := h.1 j hj
    rw [rg_at n f j, hn] at this
    cases this
  have PR : Hid ((∀ j, j < n → (inB (f (j * 2)) 0 10000 && inB (f (j * 2 + 1)) 0 10000) = true) → Rng n f) := Lib.hid fun h j hj => by rw [rg_at n f j]; exact h j hj
  have PL : Hid (¬ (3 ≤ n ∧ n ≤ 24) → outB n f = false) := Lib.hid fun h => tv_no fun o => h o.2.1
  have PS : Hid (Rng n f → 3 ≤ n → n ≤ 24 → tv (Simp n f) = outB n f) := Lib.hid fun h1 h2 h3 => by
    unfold outB
    by_cases hs : Simp n f
    · rw [tv_yes hs, tv_yes ⟨h1, ⟨h2, h3⟩, hs⟩]
    · rw [tv_no hs, tv_no fun o => hs o.2.2]
  have CS : Hid (Rng n f → 3 ≤ n → n ≤ 24 → ∀ w', Below w.heap.size w w' → Calls Tryd.prog 17 #[.slice A n c] w' fun e w2 => e = .returned (.bool (tv (Simp n f))) ∧ Below w'.heap.size w' w2) :=
    Lib.hid fun h1 h2 h3 w' hb => ssimple A n c f h2 h3 h1 w' ((hA.below hb (Nat.le_refl _)).more hb.size)
  generalize tv (Simp n f) = s at PS CS
  generalize outB n f = r at PN PL PS ⊢
  clear hA
  go_enter Tryd.func9, Tryd.ntmps9
  go_wp2_with fail
  go_loopw [3] (fun i wr => ∃ k : Nat, k ≤ n ∧ i = .int .i64 (k : Int) ∧ Hid (Below w.heap.size w wr) ∧ Hid (∀ j, j < k → (inB (f (j * 2)) 0 10000 && inB (f (j * 2 + 1)) 0 10000) = true)) (fun i _ => n - (intOf i).toNat)
  case atStart => exact ⟨0, Nat.zero_le _, rfl, Lib.hid (Below.refl _ _), Lib.hid fun j hj => by omega⟩
  case round =>
    obtain ⟨k, hk, rfl, HB, HD⟩ := hrel
    by_cases hlt : k < n
    · obtain ⟨b, off, rfl, hb, hc⟩ := HA.out (by omega)
      have hc' : ∀ i, i < n * 2 → wr.cell? ⟨b, off + i, none⟩ = some (.int .i64 (f i)) := fun i hi => (HB.out.cell (p := ⟨b, off + i, none⟩) hb).trans (hc i hi)
      obtain ⟨a0, a1⟩ := nums_two hc' hlt
      have I0 := Lib.hid fun w => Ft.in_any (f (k * 2)) 0 10000 w
      have I1 := Lib.hid fun w => Ft.in_any (f (k * 2 + 1)) 0 10000 w
      have PNk := Lib.hid (PN.out k hlt)
      have HD' : Hid ((inB (f (k * 2)) 0 10000 && inB (f (k * 2 + 1)) 0 10000) = true → ∀ j, j < k + 1 → (inB (f (j * 2)) 0 10000 && inB (f (j * 2 + 1)) 0 10000) = true) := Lib.hid fun h j hj => by
        by_cases e : j = k
        · rw [e]; exact h
        · exact HD.out j (by omega)
      generalize f (k * 2) = px at a0 I0 PNk HD'
      generalize f (k * 2 + 1) = py at a1 I1 PNk HD'
      generalize inB px 0 10000 = r0 at I0 PNk HD'
      generalize inB py 0 10000 = r1 at I1 PNk HD'
      have e0 : (0 : Int) ≤ (k : Int) := Int.natCast_nonneg _
      have e1 : (k : Int) < (n : Int) := by omega
      clear hc hc' hk
      have R : r0 = false ∨ (r0 = true ∧ r1 = false) ∨ (r0 = true ∧ r1 = true) := by cases r0 <;> cases r1 <;> simp
      rcases R with rfl | ⟨rfl, rfl⟩ | ⟨rfl, rfl⟩
      · have HE := Lib.hid (PNk.out (by simp))
        go_wp2_with fail
        refine (I0.out _).mono ?_
        rintro e w' ⟨rfl, rfl⟩
        go_wp2_with fail
        go_ret
        exact ⟨Ft.ret_bool HE.out.symm, HB.out⟩
      · have HE := Lib.hid (PNk.out (by simp))
        go_wp2_with fail
        refine (I0.out _).mono ?_
        rintro e w' ⟨rfl, rfl⟩
        go_wp2_with fail
        refine (I1.out _).mono ?_
        rintro e w' ⟨rfl, rfl⟩
        go_wp2_with fail
        go_ret
        exact ⟨Ft.ret_bool HE.out.symm, HB.out⟩
      · have HDD := Lib.hid (HD'.out (by simp))
        clear HD' PNk
        go_wp2_with fail
        refine (I0.out _).mono ?_
        rintro e w' ⟨rfl, rfl⟩
        go_wp2_with fail
        refine (I1.out _).mono ?_
        rintro e w' ⟨rfl, rfl⟩
        go_wp2_with fail
        go_roundw
        case rel => exact ⟨k + 1, by omega, by go_num, HB, HDD⟩
        case measure => simp [intOf]; omega
    · have hR := PR.out fun j hj => HD.out j (by omega)
      have e3 : ¬ (k : Int) < (n : Int) := by omega
      have IN := Lib.hid fun w => Ft.in_any (n : Int) 3 24 w
      by_cases h3 : 3 ≤ n ∧ n ≤ 24
      · have C := Lib.hid (CS.out hR h3.1 h3.2 _ HB.out)
        have HE := Lib.hid (PS.out hR h3.1 h3.2)
        rw [show inB (n : Int) 3 24 = true by unfold inB; simp; omega] at IN
        clear HA PN PR PL PS CS HD hR h3 hk hlt
        go_wp2_with fail
        refine (IN.out _).mono ?_
        rintro e w' ⟨rfl, rfl⟩
        go_wp2_with fail
        refine C.out.mono ?_
        rintro e w2 ⟨rfl, b2⟩
        have HF := Lib.hid (below_then HB.out b2)
        go_wp2_with fail
        go_ret
        exact ⟨Ft.ret_bool HE.out, HF.out⟩
      · have HE := Lib.hid (PL.out h3)
        rw [show inB (n : Int) 3 24 = false by unfold inB; simp; omega] at IN
        clear HA PN PR PL PS CS HD hR h3 hk hlt
        go_wp2_with fail
        refine (IN.out _).mono ?_
        rintro e w' ⟨rfl, rfl⟩
        go_wp2_with fail
        go_ret
        exact ⟨Ft.ret_bool HE.out.symm, HB.out⟩
end Go.Proofs.YtggbdpamjjgakaaDoor.Oq
