/- Whether a list is an outline: the program's function, whole. -/
import Derived.Test.YtggbdpamjjgakaaDoorOkLib
namespace Go.Proofs.YtggbdpamjjgakaaDoor.Om
set_option linter.unusedVariables false
open Go.RowKit Ft Is Ge Qb Ol Ot Opl Oq Oi Oj Ok

def ApP (n : Nat) (f : Nat → Int) (i : Nat) : Prop := ∀ k, i + 2 ≤ k → k < n → ¬ (i = 0 ∧ k + 1 = n) → pairB n f i k = false
def AptP (n : Nat) (f : Nat → Int) : Prop := ∀ i, i < n → ApP n f i
theorem sides_of {w : World} {b off n k m : Nat} {f : Nat → Int} (hb : b < w.heap.size) (hc : ∀ i, i < n * 4 → w.cell? ⟨b, off + i, none⟩ = some (.int .i64 (sd n f i))) (hk : k + m ≤ n) :
    Sides w (some ⟨b, off + k * 4, none⟩) m (fun j => (f ((k + j) * 2), f ((k + j) * 2 + 1))) (fun j => (f (nx n (k + j) * 2), f (nx n (k + j) * 2 + 1))) := fun _ => ⟨b, off + k * 4, rfl, hb, fun j hj => by
    obtain ⟨x0, x1, x2, x3⟩ := four_at hc (show k + j < n by omega)
    have e : off + k * 4 + j * 4 = off + (k + j) * 4 := by omega
    rw [e]
    exact ⟨x0, x1, x2, x3⟩⟩
theorem sides_none (w : World) (A : Option Addr) (P Q : Nat → Pt) : Sides w A 0 P Q := fun h => absurd h (by omega)
set_option maxRecDepth 100000 in
set_option maxHeartbeats 4000000 in
theorem iapart (A : Option Addr) (n c : Nat) (f : Nat → Int) (h3 : 3 ≤ n) (h24 : n ≤ 24) (hcap : n ≤ c) (hcm : c ≤ maxLen) (hR : Rng n f) (w : World) (hA : Nums w w.heap.size A (n * 4) (sd n f)) :
    Calls Tryd.prog 22 #[.slice A n c] w fun e w' => e = .returned (.bool (tv (AptP n f))) ∧ Below w.heap.size w w' := by
  have HA := Lib.hid hA
  have HR := Lib.hid hR
  have PY : Hid ((∀ j, j < n → ApP n f j) → tv (AptP n f) = true) := Lib.hid fun h => tv_yes h
  have PN : Hid (∀ j, j < n → ¬ ApP n f j → tv (AptP n f) = false) := Lib.hid fun j hj hn => tv_no fun h => hn (h j hj)
  clear hA hR
  generalize tv (AptP n f) = r at PY PN ⊢
  go_enter Tryd.func22, Tryd.ntmps22
  go_wp2_with fail
  go_loopw [3, 4, 5, 8] (fun _ _ _ i wr => ∃ k : Nat, k ≤ n ∧ i = .int .i64 (k : Int) ∧ Hid (Below w.heap.size w wr) ∧ Hid (∀ j, j < k → ApP n f j)) (fun _ _ _ i _ => n - (intOf i).toNat)
  case atStart => exact ⟨0, Nat.zero_le _, rfl, Lib.hid (Below.refl _ _), Lib.hid fun j hj => by omega⟩
  case round =>
    obtain ⟨k, hk, rfl, HB, HD⟩ := hrel
    by_cases hlt : k < n
    · obtain ⟨b, off, rfl, hb, hc⟩ := HA.out (by omega)
      have hc' : ∀ i, i < n * 4 → wr.cell? ⟨b, off + i, none⟩ = some (.int .i64 (sd n f i)) := fun i hi => (HB.out.cell (p := ⟨b, off + i, none⟩) hb).trans (hc i hi)
      have hsz := HB.out.size
      have hm1 := nx_lt (n := n) (i := k) (by omega)
      obtain ⟨a0, a1, a2, a3⟩ := four_at hc' hlt
      have MT : Hid (∀ m, m < n → ∀ w, Calls Tryd.prog 32 #[sdV (f (k * 2), f (k * 2 + 1)) (f (nx n k * 2), f (nx n k * 2 + 1)), sdV (f (m * 2), f (m * 2 + 1)) (f (nx n m * 2), f (nx n m * 2 + 1))] w fun e w' => e = .returned (.bool (pairB n f k m)) ∧ Below w.heap.size w w') :=
        Lib.hid fun m hm w => imeets (f (k * 2), f (k * 2 + 1)) (f (nx n k * 2), f (nx n k * 2 + 1)) (f (m * 2), f (m * 2 + 1)) (f (nx n m * 2), f (nx n m * 2 + 1)) (rng_pt HR.out hlt) (rng_pt HR.out hm1) (rng_pt HR.out hm) (rng_pt HR.out (nx_lt (by omega))) w
      have e0 : (0 : Int) ≤ (k : Int) := Int.natCast_nonneg _
      have e1 : (k : Int) < (n : Int) := by omega
      have e2 : (n : Int) ≤ 24 := by omega
      have e3 : (n : Int) ≤ (c : Int) := by omega
      have e4 : (c : Int) ≤ 9223372036854775807 := by unfold maxLen at hcm; omega
      have hbr : b < wr.heap.size := by omega
      have PNk := Lib.hid (PN.out k hlt)
      have HDk : Hid (ApP n f k → ∀ j, j < k + 1 → ApP n f j) := Lib.hid fun h j hj => by
        by_cases e : j = k
        · rw [e]; exact h
        · exact HD.out j (by omega)
      have HC4 : Hid (∀ (o : Obj) i, i < n * 4 → (wr.alloc o).cell? ⟨b, off + i, none⟩ = some (.int .i64 (sd n f i))) := Lib.hid fun o i hi => Lib.cell?_alloc_some _ (hc' i hi)
      generalize hpx : f (k * 2) = px at a0 MT
      generalize hpy : f (k * 2 + 1) = py at a1 MT
      generalize hqx : f (nx n k * 2) = qx at a2 MT
      generalize hqy : f (nx n k * 2 + 1) = qy at a3 MT
      clear hpx hpy hqx hqy
      have hc4 := HC4.out (.cells #[.int .i64 px, .int .i64 py, .int .i64 qx, .int .i64 qy] 58)
      have k4 := Lib.hid (heap_alloc_new wr (.cells #[.int .i64 px, .int .i64 py, .int .i64 qx, .int .i64 qy] 58))
      have HB4 := Lib.hid (below_then HB.out (below_box wr (.cells #[.int .i64 px, .int .i64 py, .int .i64 qx, .int .i64 qy] 58)))
      have hz4 : (wr.alloc (.cells #[.int .i64 px, .int .i64 py, .int .i64 qx, .int .i64 qy] 58)).heap.size = wr.heap.size + 1 := by simp
      clear hc hc' hk HD PN HC4
      by_cases h2 : k + 2 < n
      · have g1 : (k : Int) + 2 < (n : Int) := by omega
        have g2 : ¬ ((n : Int) < (k : Int) + 2) := by omega
        by_cases h0 : k = 0
        · have g3 : ((k : Int) == 0) = true := by rw [beq_iff_eq]; omega
          subst h0
          simp only [Nat.zero_mul, Nat.add_zero] at a0 a1 a2 a3
          go_upto_region 7 with fail
          generalize hw4 : wr.alloc _ = w4 at k4 HB4 hc4 hz4 ⊢
          clear hw4 a0 a1 a2 a3
          obtain ⟨a0, a1, a2, a3⟩ := blk4 k4.out
          have C := Lib.hid (icont (px, py) (qx, qy) (some ⟨b, off + 8, none⟩) (n - 2 - 1) (c - 2) (fun j => (f ((0 + 2 + j) * 2), f ((0 + 2 + j) * 2 + 1))) (fun j => (f (nx n (0 + 2 + j) * 2), f (nx n (0 + 2 + j) * 2 + 1))) (fun j => pairB n f 0 (0 + 2 + j)) (by omega) w4 (sides_of (k := 2) (by rw [hz4]; omega) hc4 (by omega)) (fun j hj w' => MT.out (0 + 2 + j) (by omega) w'))
          have HT : Hid (tv (∃ j, j < n - 2 - 1 ∧ pairB n f 0 (0 + 2 + j) = true) = true → r = false) := Lib.hid fun h => PNk.out fun hr => by
            obtain ⟨j, hj, hp⟩ := tv_iff.1 h
            rw [hr (0 + 2 + j) (by omega) (by omega) (by omega)] at hp
            cases hp
          have HFf : Hid (tv (∃ j, j < n - 2 - 1 ∧ pairB n f 0 (0 + 2 + j) = true) = false → ApP n f 0) := Lib.hid fun h q h1 h2' h3' => by
            cases hq : pairB n f 0 q with
            | false => rfl
            | true =>
              rw [tv_yes ⟨q - (0 + 2), by omega, by rw [show 0 + 2 + (q - (0 + 2)) = q by omega]; exact hq⟩] at h
              cases h
          generalize tv (∃ j, j < n - 2 - 1 ∧ pairB n f 0 (0 + 2 + j) = true) = t at C HT HFf
          simp only [sdV] at C
          clear MT PNk hc4
          go_wp2_with fail
          refine C.out.mono ?_
          rintro e w5 ⟨rfl, b5⟩
          have HB5 := Lib.hid (below_then HB4.out b5)
          clear a0 a1 a2 a3 b5 C
          cases t
          · have HDD := Lib.hid (HDk.out (HFf.out (by first | rfl | trivial)))
            clear HDk HFf HT
            go_wp2_with fail
            go_roundw
            case rel => exact ⟨0 + 1, by omega, by go_num, HB5, HDD⟩
            case measure => simp [intOf]; omega
          · have HE := Lib.hid (HT.out (by first | rfl | trivial))
            clear HDk HFf HT
            go_wp2_with fail
            go_ret
            exact ⟨Ft.ret_bool HE.out.symm, HB5.out⟩
        · have g3 : ((k : Int) == 0) = false := by rw [beq_eq_false_iff_ne]; omega
          go_upto_region 7 with fail
          generalize hw4 : wr.alloc _ = w4 at k4 HB4 hc4 hz4 ⊢
          clear hw4 a0 a1 a2 a3
          obtain ⟨a0, a1, a2, a3⟩ := blk4 k4.out
          have C := Lib.hid (icont (px, py) (qx, qy) (some ⟨b, off + (k + 2) * 4, none⟩) (n - (k + 2)) (c - (k + 2)) (fun j => (f ((k + 2 + j) * 2), f ((k + 2 + j) * 2 + 1))) (fun j => (f (nx n (k + 2 + j) * 2), f (nx n (k + 2 + j) * 2 + 1))) (fun j => pairB n f k (k + 2 + j)) (by omega) w4 (sides_of (k := k + 2) (by rw [hz4]; omega) hc4 (by omega)) (fun j hj w' => MT.out (k + 2 + j) (by omega) w'))
          have HT : Hid (tv (∃ j, j < n - (k + 2) ∧ pairB n f k (k + 2 + j) = true) = true → r = false) := Lib.hid fun h => PNk.out fun hr => by
            obtain ⟨j, hj, hp⟩ := tv_iff.1 h
            rw [hr (k + 2 + j) (by omega) (by omega) (by omega)] at hp
            cases hp
          have HFf : Hid (tv (∃ j, j < n - (k + 2) ∧ pairB n f k (k + 2 + j) = true) = false → ApP n f k) := Lib.hid fun h q h1 h2' h3' => by
            cases hq : pairB n f k q with
            | false => rfl
            | true =>
              rw [tv_yes ⟨q - (k + 2), by omega, by rw [show k + 2 + (q - (k + 2)) = q by omega]; exact hq⟩] at h
              cases h
          generalize tv (∃ j, j < n - (k + 2) ∧ pairB n f k (k + 2 + j) = true) = t at C HT HFf
          simp only [sdV] at C
          clear MT PNk hc4
          go_wp2_with fail
          refine C.out.mono ?_
          rintro e w5 ⟨rfl, b5⟩
          have HB5 := Lib.hid (below_then HB4.out b5)
          clear a0 a1 a2 a3 b5 C
          cases t
          · have HDD := Lib.hid (HDk.out (HFf.out (by first | rfl | trivial)))
            clear HDk HFf HT
            go_wp2_with fail
            go_roundw
            case rel => exact ⟨k + 1, by omega, by go_num, HB5, HDD⟩
            case measure => simp [intOf]; omega
          · have HE := Lib.hid (HT.out (by first | rfl | trivial))
            clear HDk HFf HT
            go_wp2_with fail
            go_ret
            exact ⟨Ft.ret_bool HE.out.symm, HB5.out⟩
      · have h0 : ¬ k = 0 := by omega
        have g1 : ¬ ((k : Int) + 2 < (n : Int)) := by omega
        have g2 : (n : Int) ≤ (k : Int) + 2 := by omega
        have g3 : ((k : Int) == 0) = false := by rw [beq_eq_false_iff_ne]; omega
        go_upto_region 7 with fail
        have hq : (if (n : Int) < (k : Int) + 2 then (n : Int) else (k : Int) + 2) = (n : Int) := by split <;> omega
        simp only [hq, Int.toNat_natCast, Nat.sub_self]
        generalize (if c = n then some (⟨b, off, none⟩ : Addr) else some ⟨b, off + n * 4, none⟩) = X
        generalize hw4 : wr.alloc _ = w4 at k4 HB4 hc4 hz4 ⊢
        clear hw4 a0 a1 a2 a3
        obtain ⟨a0, a1, a2, a3⟩ := blk4 k4.out
        have C := Lib.hid (icont (px, py) (qx, qy) X (0) (c - n) (fun j => (f ((k + 2 + j) * 2), f ((k + 2 + j) * 2 + 1))) (fun j => (f (nx n (k + 2 + j) * 2), f (nx n (k + 2 + j) * 2 + 1))) (fun j => pairB n f k (k + 2 + j)) (by omega) w4 (sides_none _ _ _ _) (fun j hj w' => MT.out (k + 2 + j) (by omega) w'))
        have HT : Hid (tv (∃ j, j < 0 ∧ pairB n f k (k + 2 + j) = true) = true → r = false) := Lib.hid fun h => PNk.out fun hr => by
          obtain ⟨j, hj, hp⟩ := tv_iff.1 h
          rw [hr (k + 2 + j) (by omega) (by omega) (by omega)] at hp
          cases hp
        have HFf : Hid (tv (∃ j, j < 0 ∧ pairB n f k (k + 2 + j) = true) = false → ApP n f k) := Lib.hid fun h q h1 h2' h3' => by
          cases hq : pairB n f k q with
          | false => rfl
          | true =>
            rw [tv_yes ⟨q - (k + 2), by omega, by rw [show k + 2 + (q - (k + 2)) = q by omega]; exact hq⟩] at h
            cases h
        generalize tv (∃ j, j < 0 ∧ pairB n f k (k + 2 + j) = true) = t at C HT HFf
        simp only [sdV] at C
        clear MT PNk hc4
        go_wp2_with fail
        refine C.out.mono ?_
        rintro e w5 ⟨rfl, b5⟩
        have HB5 := Lib.hid (below_then HB4.out b5)
        clear a0 a1 a2 a3 b5 C
        cases t
        · have HDD := Lib.hid (HDk.out (HFf.out (by first | rfl | trivial)))
          clear HDk HFf HT
          go_wp2_with fail
          go_roundw
          case rel => exact ⟨k + 1, by omega, by go_num, HB5, HDD⟩
          case measure => simp [intOf]; omega
        · have HE := Lib.hid (HT.out (by first | rfl | trivial))
          clear HDk HFf HT
          go_wp2_with fail
          go_ret
          exact ⟨Ft.ret_bool HE.out.symm, HB5.out⟩
    · have HE := Lib.hid (PY.out fun j hj => HD.out j (by omega))
      have e3 : ¬ (k : Int) < (n : Int) := by omega
      go_wp2_with fail
      go_ret
      exact ⟨Ft.ret_bool HE.out.symm, HB.out⟩
theorem iwith (n a b : Int) (w : World) : Calls Tryd.prog 29 #[.int .i64 n, .int .i64 a, .int .i64 b] w fun e w' => e = .returned (.bool (inB n a b)) ∧ w = w' := Ba.within_any n a b w
theorem ileather (p : Pt) (w : World) : Calls Tryd.prog 19 #[spV p.1 p.2] w fun e w' => e = .returned (.bool (rgB p)) ∧ Below w.heap.size w w' := by
  have I0 := Lib.hid fun w => iwith p.1 0 10000 w
  have I1 := Lib.hid fun w => iwith p.2 0 10000 w
  unfold rgB
  obtain ⟨p0, p1⟩ := p
  simp only [spV] at *
  generalize inB p0 0 10000 = r0 at I0 ⊢
  generalize inB p1 0 10000 = r1 at I1 ⊢
  have k0 := heap_alloc_new w (spC p0 p1 31)
  have B0 := Lib.hid (below_box w (spC p0 p1 31))
  cases r0
  · go_enter Tryd.func19, Tryd.ntmps19
    go_wp2_with fail
    refine (I0.out _).mono ?_
    rintro e w' ⟨rfl, rfl⟩
    go_wp2_with fail
    go_ret
    exact ⟨by simp, B0.out⟩
  · go_enter Tryd.func19, Tryd.ntmps19
    go_wp2_with fail
    refine (I0.out _).mono ?_
    rintro e w' ⟨rfl, rfl⟩
    go_wp2_with fail
    refine (I1.out _).mono ?_
    rintro e w' ⟨rfl, rfl⟩
    go_wp2_with fail
    go_ret
    exact ⟨by simp, B0.out⟩
theorem out_iff {n : Nat} {f : Nat → Int} (hR : Rng n f) (h : 3 ≤ n ∧ n ≤ 24) : outB n f = (tv (BendP n f) && tv (AptP n f)) := by
  unfold outB
  by_cases hb : BendP n f
  · by_cases ha : AptP n f
    · rw [tv_yes hb, tv_yes ha, tv_yes ⟨hR, h, fun i hi => ⟨hb i hi, ha i hi⟩⟩]; rfl
    · rw [tv_yes hb, tv_no ha, tv_no fun o => ha fun i hi => (o.2.2 i hi).2]; rfl
  · rw [tv_no hb, tv_no fun o => hb fun i hi => (o.2.2 i hi).1]; rfl
set_option maxRecDepth 100000 in
set_option maxHeartbeats 2000000 in
theorem iok (A : Option Addr) (n c : Nat) (f : Nat → Int) (hn : n ≤ 1048576) (w : World) (hA : Nums w w.heap.size A (n * 2) f) :
    Calls Tryd.prog 12 #[.slice A n c] w fun e w' => e = .returned (.bool (outB n f)) ∧ Below w.heap.size w w' := by
  have PL : Hid (¬ (3 ≤ n ∧ n ≤ 24) → outB n f = false) := Lib.hid fun h => tv_no fun o => h o.2.1
  by_cases h3 : 3 ≤ n ∧ n ≤ 24
  · have HA := Lib.hid hA
    have PN : Hid (∀ j, j < n → rgB (f (j * 2), f (j * 2 + 1)) = false → outB n f = false) := Lib.hid fun j hj hn => tv_no fun h => by
      have := h.1 j hj
      unfold pt at this
      rw [hn] at this
      cases this
    have PS : Hid (Rng n f → outB n f = (tv (BendP n f) && tv (AptP n f))) := Lib.hid fun hR => out_iff hR h3
    have CB : Hid (Rng n f → ∀ w' B c', Nums w' w'.heap.size B (n * 4) (sd n f) → Calls Tryd.prog 21 #[.slice B n c'] w' fun e w2 => e = .returned (.bool (tv (BendP n f))) ∧ Below w'.heap.size w' w2) := Lib.hid fun hR w' B c' h => ibends B n c' f (by omega) h3.2 hR w' h
    have CA : Hid (Rng n f → ∀ w' B c', n ≤ c' → c' ≤ maxLen → Nums w' w'.heap.size B (n * 4) (sd n f) → Calls Tryd.prog 22 #[.slice B n c'] w' fun e w2 => e = .returned (.bool (tv (AptP n f))) ∧ Below w'.heap.size w' w2) := Lib.hid fun hR w' B c' h1 h2 h => iapart B n c' f h3.1 h3.2 h1 h2 hR w' h
    have CS : Hid (∀ w', Below w.heap.size w w' → Calls Tryd.prog 20 #[.slice A n c] w' (SdAt n f w')) := Lib.hid fun w' hb => isides A n c f (by omega) h3.2 w' ((hA.below hb (Nat.le_refl _)).more hb.size)
    generalize tv (BendP n f) = rb at PS CB
    generalize tv (AptP n f) = ra at PS CA
    generalize outB n f = r at PN PS ⊢
    have e2 : (3 : Int) ≤ (n : Int) := by omega
    have e3 : (n : Int) ≤ 24 := by omega
    clear hA PL
    go_enter Tryd.func12, Tryd.ntmps12
    go_wp2_with fail
    go_loopw [4, 16] (fun _ i wr => ∃ k : Nat, k ≤ n ∧ i = .int .i64 (k : Int) ∧ Hid (Below w.heap.size w wr) ∧ Hid (∀ j, j < k → rgB (f (j * 2), f (j * 2 + 1)) = true)) (fun _ i _ => n - (intOf i).toNat)
    case atStart => exact ⟨0, Nat.zero_le _, rfl, Lib.hid (Below.refl _ _), Lib.hid fun j hj => by omega⟩
    case round =>
      obtain ⟨k, hk, rfl, HB, HD⟩ := hrel
      have e0 : (0 : Int) ≤ (k : Int) := Int.natCast_nonneg _
      by_cases hlt : k < n
      · obtain ⟨b, off, rfl, hb, hc⟩ := HA.out (by omega)
        have hc' : ∀ i, i < n * 2 → wr.cell? ⟨b, off + i, none⟩ = some (.int .i64 (f i)) := fun i hi => (HB.out.cell (p := ⟨b, off + i, none⟩) hb).trans (hc i hi)
        obtain ⟨a0, a1⟩ := nums_two hc' hlt
        have L := Lib.hid fun w => ileather (f (k * 2), f (k * 2 + 1)) w
        have PNk := Lib.hid (PN.out k hlt)
        have HDk : Hid (rgB (f (k * 2), f (k * 2 + 1)) = true → ∀ j, j < k + 1 → rgB (f (j * 2), f (j * 2 + 1)) = true) := Lib.hid fun h j hj => by
          by_cases e : j = k
          · rw [e]; exact h
          · exact HD.out j (by omega)
        generalize rgB (f (k * 2), f (k * 2 + 1)) = rg at L PNk HDk
        generalize f (k * 2) = px at a0 L
        generalize f (k * 2 + 1) = py at a1 L
        simp only [spV] at L
        have e1 : (k : Int) < (n : Int) := by omega
        have k4 := heap_alloc_new wr (spC px py 31)
        have HB4 := Lib.hid (below_then HB.out (below_box wr (spC px py 31)))
        clear hc hc' hk HD CS CA CB PS PN
        go_wp2_with fail
        refine (L.out _).mono ?_
        rintro e w4 ⟨rfl, b4⟩
        have HB5 := Lib.hid (below_then HB4.out b4)
        clear a0 a1 k4 b4 HB4
        cases rg
        · have HE := Lib.hid (PNk.out (by first | rfl | trivial))
          clear HDk
          go_wp2_with fail
          go_ret
          exact ⟨Ft.ret_bool HE.out.symm, HB5.out⟩
        · have HDD := Lib.hid (HDk.out (by first | rfl | trivial))
          clear HDk PNk
          go_wp2_with fail
          go_roundw
          case rel => exact ⟨k + 1, by omega, by go_num, HB5, HDD⟩
          case measure => simp [intOf]; omega
      · have hR : Rng n f := fun j hj => HD.out j (by omega)
        have PS := Lib.hid (PS.out hR)
        have CB := Lib.hid (CB.out hR)
        have CA := Lib.hid (CA.out hR)
        have S := Lib.hid (CS.out _ HB.out)
        have e1 : ¬ (k : Int) < (n : Int) := by omega
        clear hR CS PN HD hk hlt HA
        go_wp2_with fail
        refine S.out.mono ?_
        rintro e w4 ⟨B, cap, rfl, ⟨hc1, hc2⟩, HO, b4⟩
        have HB4 := Lib.hid (below_then HB.out b4)
        have C1 := Lib.hid (CB.out w4 B cap HO.out.nums)
        clear b4 S CB
        go_wp2_with fail
        refine C1.out.mono ?_
        rintro e w5 ⟨rfl, b5⟩
        have HB5 := Lib.hid (below_then HB4.out b5)
        have C2 := Lib.hid (CA.out w5 B cap hc1 hc2 (HO.out.below b5).nums)
        clear b5 C1 CA HO hc1 hc2
        cases rb
        · have HE : Hid (r = false) := Lib.hid (by rw [PS.out]; rfl)
          go_wp2_with fail
          go_ret
          exact ⟨Ft.ret_bool HE.out.symm, HB5.out⟩
        · have HE : Hid (r = ra) := Lib.hid (by rw [PS.out]; simp)
          go_wp2_with fail
          refine C2.out.mono ?_
          rintro e w6 ⟨rfl, b6⟩
          have HB6 := Lib.hid (below_then HB5.out b6)
          clear b6 C2
          go_wp2_with fail
          go_ret
          exact ⟨Ft.ret_bool HE.out.symm, HB6.out⟩
  · have HE := Lib.hid (PL.out h3)
    clear PL hA
    by_cases h : n < 3
    · have e1 : (n : Int) < 3 := by omega
      go_enter Tryd.func12, Tryd.ntmps12
      go_wp2_with fail
      go_ret
      exact ⟨Ft.ret_bool HE.out.symm, Below.refl _ _⟩
    · have e1 : ¬ (n : Int) < 3 := by omega
      have e2 : 24 < (n : Int) := by omega
      go_enter Tryd.func12, Tryd.ntmps12
      go_wp2_with fail
      go_ret
      exact ⟨Ft.ret_bool HE.out.symm, Below.refl _ _⟩
end Go.Proofs.YtggbdpamjjgakaaDoor.Om
