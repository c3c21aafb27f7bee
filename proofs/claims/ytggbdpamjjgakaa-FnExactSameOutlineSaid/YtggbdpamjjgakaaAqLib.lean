/- IsLeftHanded and SameOutline: spec and program. -/
import Derived.Test.YtggbdpamjjgakaaArLib
import Derived.Laws.StructEq
namespace Go.Proofs.Ytggbdpamjjgakaa.Aq
set_option linter.unusedVariables false
open Go.RowKit Ft Is Ge Qb Ol Ot Opl Oq Oi Oj Ok Om Ar

noncomputable def lhB (n : Nat) (f : Nat → Int) : Bool := outB n f && decide (0 < sumN n f n)
theorem spec_lh (A : Option Addr) (n c : Nat) (f : Nat → Int) (hn : n ≤ 1048576) (w : World) (hA : Nums w w.heap.size A (n * 2) f) :
    Calls Try.prog 23 #[.slice A n c] w fun e w' => e = .returned (.tuple #[.bool (lhB n f), .int .i64 (oC n f)]) ∧ Below w.heap.size w w' := by
  have C := Lib.hid (sok A n c f hn w hA)
  unfold lhB
  cases ho : outB n f
  · rw [oC_no ho]
    rw [ho] at C
    clear hA
    go_enter Try.func23, Try.ntmps23
    go_wp2_with fail
    refine C.out.mono ?_
    rintro e w2 ⟨rfl, b2⟩
    go_wp2_with fail
    go_ret2
    exact ⟨rfl, b2⟩
  · obtain ⟨hR, h3, h24⟩ := out_is ho
    rw [oC_yes ho]
    rw [ho] at C
    have S : Hid (∀ w', Below w.heap.size w w' → Calls Try.prog 50 #[.slice A n c] w' fun e w2 => e = .returned (.int .i64 (sumN n f n)) ∧ Below w'.heap.size w' w2) := Lib.hid fun w' hb => ssum A n c f h24 hR w' ((hA.below hb (Nat.le_refl _)).more hb.size)
    clear hA hR
    generalize sumN n f n = s at S
    go_enter Try.func23, Try.ntmps23
    go_wp2_with fail
    refine C.out.mono ?_
    rintro e w2 ⟨rfl, b2⟩
    have B2 := Lib.hid b2
    clear b2
    go_wp2_with fail
    refine (S.out _ B2.out).mono ?_
    rintro e w3 ⟨rfl, b3⟩
    have B3 := Lib.hid (below_then B2.out b3)
    clear b3
    go_wp2_with fail
    go_ret2
    exact ⟨by simp, B3.out⟩
theorem impl_lh (A : Option Addr) (n c : Nat) (f : Nat → Int) (hn : n ≤ 1048576) (w : World) (hA : Nums w w.heap.size A (n * 2) f) :
    Calls Try.prog 24 #[.slice A n c] w fun e w' => e = .returned (.tuple #[.bool (lhB n f), .int .i64 (oC n f)]) ∧ Below w.heap.size w w' := by
  have C := Lib.hid (iok A n c f hn w hA)
  unfold lhB
  cases ho : outB n f
  · rw [oC_no ho]
    rw [ho] at C
    clear hA
    go_enter Try.func24, Try.ntmps24
    go_wp2_with fail
    refine C.out.mono ?_
    rintro e w2 ⟨rfl, b2⟩
    go_wp2_with fail
    go_ret2
    exact ⟨rfl, b2⟩
  · obtain ⟨hR, h3, h24⟩ := out_is ho
    rw [oC_yes ho]
    rw [ho] at C
    have S : Hid (∀ w', Below w.heap.size w w' → Calls Try.prog 45 #[.slice A n c] w' (SdAt n f w')) := Lib.hid fun w' hb => isides A n c f (by omega) h24 w' ((hA.below hb (Nat.le_refl _)).more hb.size)
    have Z : Hid (∀ w' B c', Nums w' w'.heap.size B (n * 4) (sd n f) → Calls Try.prog 52 #[.slice B n c'] w' fun e w2 => e = .returned (.int .i64 (sumN n f n)) ∧ Below w'.heap.size w' w2) := Lib.hid fun w' B c' h => isum B n c' f h24 hR w' h
    clear hA hR
    generalize sumN n f n = s at Z ⊢
    go_enter Try.func24, Try.ntmps24
    go_wp2_with fail
    refine C.out.mono ?_
    rintro e w2 ⟨rfl, b2⟩
    have B2 := Lib.hid b2
    clear b2
    go_wp2_with fail
    refine (S.out _ B2.out).mono ?_
    rintro e w3 ⟨B, cap, rfl, _, HO, b3⟩
    have B3 := Lib.hid (below_then B2.out b3)
    have C3 := Lib.hid (Z.out w3 B cap HO.out.nums)
    clear b3 HO
    go_wp2_with fail
    refine C3.out.mono ?_
    rintro e w4 ⟨rfl, b4⟩
    have B4 := Lib.hid (below_then B3.out b4)
    clear b4
    go_wp2_with fail
    go_ret2
    exact ⟨by simp, B4.out⟩
/-- Two lists of spots are equal. -/
def SoP (n : Nat) (f : Nat → Int) (m : Nat) (g : Nat → Int) : Prop := n = m ∧ ∀ i, i < n → f (i * 2) = g (i * 2) ∧ f (i * 2 + 1) = g (i * 2 + 1)
set_option maxRecDepth 100000 in
set_option maxHeartbeats 2000000 in
theorem spec_so (A : Option Addr) (n c : Nat) (f : Nat → Int) (B : Option Addr) (m d : Nat) (g : Nat → Int) (hn : n ≤ 1048576) (hm : m ≤ 1048576) (w : World) (hA : Nums w w.heap.size A (n * 2) f) (hB : Nums w w.heap.size B (m * 2) g) :
    Calls Try.prog 19 #[.slice A n c, .slice B m d] w fun e w' => e = .returned (.bool (tv (SoP n f m g))) ∧ Below w.heap.size w w' := by
  have HA := Lib.hid hA
  have HB := Lib.hid hB
  have PY : Hid (n = m → (∀ i, i < n → f (i * 2) = g (i * 2) ∧ f (i * 2 + 1) = g (i * 2 + 1)) → tv (SoP n f m g) = true) := Lib.hid fun h1 h2 => tv_yes ⟨h1, h2⟩
  have PN : Hid (∀ i, i < n → ¬ (f (i * 2) = g (i * 2) ∧ f (i * 2 + 1) = g (i * 2 + 1)) → tv (SoP n f m g) = false) := Lib.hid fun i hi h => tv_no fun o => h (o.2 i hi)
  have PL : Hid (n ≠ m → tv (SoP n f m g) = false) := Lib.hid fun h => tv_no fun o => h o.1
  clear hA hB
  generalize tv (SoP n f m g) = r at PY PN PL ⊢
  by_cases hnm : n = m
  · subst hnm
    have PYy := Lib.hid (PY.out rfl)
    clear PL PY
    go_enter Try.func19, Try.ntmps19
    go_wp2_with fail
    go_loopw [5] (fun i wr => ∃ k : Nat, k ≤ n ∧ i = .int .i64 (k : Int) ∧ Hid (Below w.heap.size w wr) ∧ Hid (∀ j, j < k → f (j * 2) = g (j * 2) ∧ f (j * 2 + 1) = g (j * 2 + 1))) (fun i _ => n - (intOf i).toNat)
    case atStart => exact ⟨0, Nat.zero_le _, rfl, Lib.hid (Below.refl _ _), Lib.hid fun j hj => by omega⟩
    case round =>
      obtain ⟨k, hk, rfl, HW, HD⟩ := hrel
      have e0 : (0 : Int) ≤ (k : Int) := Int.natCast_nonneg _
      by_cases hlt : k < n
      · obtain ⟨b1, o1, rfl, hb1, hc1⟩ := (HA.out.below HW.out (Nat.le_refl _)) (by omega)
        obtain ⟨b2, o2, rfl, hb2, hc2⟩ := (HB.out.below HW.out (Nat.le_refl _)) (by omega)
        obtain ⟨a0, a1⟩ := nums_two hc1 hlt
        obtain ⟨x0, x1⟩ := nums_two hc2 hlt
        have e1 : (k : Int) < (n : Int) := by omega
        have PNk := Lib.hid (PN.out k hlt)
        have HDk : Hid ((f (k * 2) = g (k * 2) ∧ f (k * 2 + 1) = g (k * 2 + 1)) → ∀ j, j < k + 1 → f (j * 2) = g (j * 2) ∧ f (j * 2 + 1) = g (j * 2 + 1)) := Lib.hid fun h j hj => by
          by_cases e : j = k
          · rw [e]; exact h
          · exact HD.out j (by omega)
        generalize f (k * 2) = px at a0 PNk HDk
        generalize f (k * 2 + 1) = py at a1 PNk HDk
        generalize g (k * 2) = qx at x0 PNk HDk
        generalize g (k * 2 + 1) = qy at x1 PNk HDk
        clear hc1 hc2 hk HD PN
        go_upto_region 6 with fail
        have a0 := bey_cell a0
        have a1 := bey_cell a1
        have x0 := bey_cell x0
        have x1 := bey_cell x1
        have R : (px ≠ qx) ∨ (px = qx ∧ py ≠ qy) ∨ (px = qx ∧ py = qy) := by
          by_cases h1 : px = qx
          · by_cases h2 : py = qy
            · exact .inr (.inr ⟨h1, h2⟩)
            · exact .inr (.inl ⟨h1, h2⟩)
          · exact .inl h1
        rcases R with hq | ⟨rfl, hq⟩ | ⟨rfl, rfl⟩
        · have HE := Lib.hid (PNk.out (fun h => hq h.1))
          have hq1 := eq_false hq
          have hq2 : (px == qx) = false := by simpa using hq
          clear HDk PNk hq
          refine wp_region_below (by kernel_rfl) (by kernel_rfl) ?_
          repeat (go_big_quiet_step (fail))
          refine wpQuiet_nil ?_
          rintro _ ⟨pq, rfl⟩
          have HQ := Lib.hid (below_then HW.out pq.h)
          generalize pq.to = wq at HQ ⊢
          clear a0 a1 x0 x1
          go_wp2_with fail
          go_ret
          exact ⟨Ft.ret_bool HE.out.symm, HQ.out⟩
        · have HE := Lib.hid (PNk.out (fun h => hq h.2))
          have hq1 := eq_false hq
          have hq2 : (py == qy) = false := by simpa using hq
          clear HDk PNk hq
          refine wp_region_below (by kernel_rfl) (by kernel_rfl) ?_
          repeat (go_big_quiet_step (fail))
          refine wpQuiet_nil ?_
          rintro _ ⟨pq, rfl⟩
          have HQ := Lib.hid (below_then HW.out pq.h)
          generalize pq.to = wq at HQ ⊢
          clear a0 a1 x0 x1
          go_wp2_with fail
          go_ret
          exact ⟨Ft.ret_bool HE.out.symm, HQ.out⟩
        · have HDD := Lib.hid (HDk.out ⟨rfl, rfl⟩)
          clear HDk PNk
          refine wp_region_below (by kernel_rfl) (by kernel_rfl) ?_
          repeat (go_big_quiet_step (fail))
          refine wpQuiet_nil ?_
          rintro _ ⟨pq, rfl⟩
          have HQ := Lib.hid (below_then HW.out pq.h)
          generalize pq.to = wq at HQ ⊢
          clear a0 a1 x0 x1
          go_wp2_with fail
          go_roundw
          case rel => exact ⟨k + 1, by omega, by go_num, HQ, HDD⟩
          case measure => simp [intOf]; omega
      · have HE := Lib.hid (PYy.out fun j hj => HD.out j (by omega))
        have e1 : ¬ (k : Int) < (n : Int) := by omega
        clear hk HD
        go_wp2_with fail
        go_ret
        exact ⟨Ft.ret_bool HE.out.symm, HW.out⟩
  · have HE := Lib.hid (PL.out hnm)
    have g1 : ((n : Int) != (m : Int)) = true := by simp; omega
    have g2 : ((n : Int) == (m : Int)) = false := by simp; omega
    clear PY PN PL
    go_enter Try.func19, Try.ntmps19
    go_wp2_with fail
    go_ret
    exact ⟨Ft.ret_bool HE.out.symm, Below.refl _ _⟩
set_option maxRecDepth 100000 in
set_option maxHeartbeats 2000000 in
theorem equal_so (A : Option Addr) (n c : Nat) (f : Nat → Int) (B : Option Addr) (m d : Nat) (g : Nat → Int) (hn : n ≤ 1048576) (hm : m ≤ 1048576) (w : World) (hA : Nums w w.heap.size A (n * 2) f) (hB : Nums w w.heap.size B (m * 2) g) :
    Calls Try.prog 48 #[.slice A n c, .slice B m d] w fun e w' => e = .returned (.bool (tv (SoP n f m g))) ∧ Below w.heap.size w w' := by
  have HA := Lib.hid hA
  have HB := Lib.hid hB
  have PY : Hid (n = m → (∀ i, i < n → f (i * 2) = g (i * 2) ∧ f (i * 2 + 1) = g (i * 2 + 1)) → tv (SoP n f m g) = true) := Lib.hid fun h1 h2 => tv_yes ⟨h1, h2⟩
  have PN : Hid (∀ i, i < n → ¬ (f (i * 2) = g (i * 2) ∧ f (i * 2 + 1) = g (i * 2 + 1)) → tv (SoP n f m g) = false) := Lib.hid fun i hi h => tv_no fun o => h (o.2 i hi)
  have PL : Hid (n ≠ m → tv (SoP n f m g) = false) := Lib.hid fun h => tv_no fun o => h o.1
  clear hA hB
  generalize tv (SoP n f m g) = r at PY PN PL ⊢
  by_cases hnm : n = m
  · subst hnm
    have PYy := Lib.hid (PY.out rfl)
    clear PL PY
    go_enter Try.func48, Try.ntmps48
    go_wp2_with fail
    go_loopw [5, 13] (fun _ i wr => ∃ k : Nat, k ≤ n ∧ i = .int .i64 (k : Int) ∧ Hid (Below w.heap.size w wr) ∧ Hid (∀ j, j < k → f (j * 2) = g (j * 2) ∧ f (j * 2 + 1) = g (j * 2 + 1))) (fun _ i _ => n - (intOf i).toNat)
    case atStart => exact ⟨0, Nat.zero_le _, rfl, Lib.hid (Below.refl _ _), Lib.hid fun j hj => by omega⟩
    case round =>
      obtain ⟨k, hk, rfl, HW, HD⟩ := hrel
      have e0 : (0 : Int) ≤ (k : Int) := Int.natCast_nonneg _
      by_cases hlt : k < n
      · obtain ⟨b1, o1, rfl, hb1, hc1⟩ := (HA.out.below HW.out (Nat.le_refl _)) (by omega)
        obtain ⟨b2, o2, rfl, hb2, hc2⟩ := (HB.out.below HW.out (Nat.le_refl _)) (by omega)
        obtain ⟨a0, a1⟩ := nums_two hc1 hlt
        obtain ⟨x0, x1⟩ := nums_two hc2 hlt
        have e1 : (k : Int) < (n : Int) := by omega
        have PNk := Lib.hid (PN.out k hlt)
        have HDk : Hid ((f (k * 2) = g (k * 2) ∧ f (k * 2 + 1) = g (k * 2 + 1)) → ∀ j, j < k + 1 → f (j * 2) = g (j * 2) ∧ f (j * 2 + 1) = g (j * 2 + 1)) := Lib.hid fun h j hj => by
          by_cases e : j = k
          · rw [e]; exact h
          · exact HD.out j (by omega)
        generalize f (k * 2) = px at a0 PNk HDk
        generalize f (k * 2 + 1) = py at a1 PNk HDk
        generalize g (k * 2) = qx at x0 PNk HDk
        generalize g (k * 2 + 1) = qy at x1 PNk HDk
        clear hc1 hc2 hk HD PN
        go_upto_region 6 with fail
        have a0 := bey_cell a0
        have a1 := bey_cell a1
        have x0 := bey_cell x0
        have x1 := bey_cell x1
        have R : (px ≠ qx) ∨ (px = qx ∧ py ≠ qy) ∨ (px = qx ∧ py = qy) := by
          by_cases h1 : px = qx
          · by_cases h2 : py = qy
            · exact .inr (.inr ⟨h1, h2⟩)
            · exact .inr (.inl ⟨h1, h2⟩)
          · exact .inl h1
        rcases R with hq | ⟨rfl, hq⟩ | ⟨rfl, rfl⟩
        · have HE := Lib.hid (PNk.out (fun h => hq h.1))
          have hq1 := eq_false hq
          have hq2 : (px == qx) = false := by simpa using hq
          clear HDk PNk hq
          refine wp_region_below (by kernel_rfl) (by kernel_rfl) ?_
          repeat (go_big_quiet_step (fail))
          refine wpQuiet_nil ?_
          rintro _ ⟨pq, rfl⟩
          have HQ := Lib.hid (below_then HW.out pq.h)
          generalize pq.to = wq at HQ ⊢
          clear a0 a1 x0 x1
          go_wp2_with fail
          go_ret
          exact ⟨Ft.ret_bool HE.out.symm, HQ.out⟩
        · have HE := Lib.hid (PNk.out (fun h => hq h.2))
          have hq1 := eq_false hq
          have hq2 : (py == qy) = false := by simpa using hq
          clear HDk PNk hq
          refine wp_region_below (by kernel_rfl) (by kernel_rfl) ?_
          repeat (go_big_quiet_step (fail))
          refine wpQuiet_nil ?_
          rintro _ ⟨pq, rfl⟩
          have HQ := Lib.hid (below_then HW.out pq.h)
          generalize pq.to = wq at HQ ⊢
          clear a0 a1 x0 x1
          go_wp2_with fail
          go_ret
          exact ⟨Ft.ret_bool HE.out.symm, HQ.out⟩
        · have HDD := Lib.hid (HDk.out ⟨rfl, rfl⟩)
          clear HDk PNk
          refine wp_region_below (by kernel_rfl) (by kernel_rfl) ?_
          repeat (go_big_quiet_step (fail))
          refine wpQuiet_nil ?_
          rintro _ ⟨pq, rfl⟩
          have HQ := Lib.hid (below_then HW.out pq.h)
          generalize pq.to = wq at HQ ⊢
          clear a0 a1 x0 x1
          go_wp2_with fail
          go_roundw
          case rel => exact ⟨k + 1, by omega, by go_num, HQ, HDD⟩
          case measure => simp [intOf]; omega
      · have HE := Lib.hid (PYy.out fun j hj => HD.out j (by omega))
        have e1 : ¬ (k : Int) < (n : Int) := by omega
        clear hk HD
        go_wp2_with fail
        go_ret
        exact ⟨Ft.ret_bool HE.out.symm, HW.out⟩
  · have HE := Lib.hid (PL.out hnm)
    have g1 : ((n : Int) != (m : Int)) = true := by simp; omega
    have g2 : ((n : Int) == (m : Int)) = false := by simp; omega
    clear PY PN PL
    go_enter Try.func48, Try.ntmps48
    go_wp2_with fail
    go_ret
    exact ⟨Ft.ret_bool HE.out.symm, Below.refl _ _⟩
theorem impl_so (A : Option Addr) (n c : Nat) (f : Nat → Int) (B : Option Addr) (m d : Nat) (g : Nat → Int) (hn : n ≤ 1048576) (hm : m ≤ 1048576) (w : World) (hA : Nums w w.heap.size A (n * 2) f) (hB : Nums w w.heap.size B (m * 2) g) :
    Calls Try.prog 20 #[.slice A n c, .slice B m d] w fun e w' => e = .returned (.bool (tv (SoP n f m g))) ∧ Below w.heap.size w w' := by
  have C := Lib.hid (equal_so A n c f B m d g hn hm w hA hB)
  clear hA hB
  generalize tv (SoP n f m g) = r at C ⊢
  go_enter Try.func20, Try.ntmps20
  go_wp2_with fail
  refine C.out.mono ?_
  rintro e w2 ⟨rfl, b2⟩
  go_wp2_with fail
  go_ret
  exact ⟨rfl, b2⟩
end Go.Proofs.Ytggbdpamjjgakaa.Aq
