/- SameBlocks: spec and program (gensame.py). -/
import Derived.Test.YtgclhkiiaclkgabBlkLib
import Derived.Laws.StructEq
import Derived.BigQuiet
import Derived.Deep.Cut
namespace Go.Proofs.Ytgclhkiiaclkgab.N3
set_option linter.unusedVariables false
open Go.RowKit Ft Is Ge Qb Blk
def SP (n : Nat) (f : Nat → Int) (m : Nat) (g : Nat → Int) : Prop := n = m ∧ ∀ i, i < n → f (i * 2) = g (i * 2) ∧ f (i * 2 + 1) = g (i * 2 + 1)
set_option maxRecDepth 100000 in
set_option maxHeartbeats 2000000 in
theorem spec_same (A : Option Addr) (n c : Nat) (f : Nat → Int) (B : Option Addr) (m d : Nat) (g : Nat → Int) (hn : n ≤ 1048576) (hm : m ≤ 1048576) (w : World) (hA : Nums w w.heap.size A (n * 2) f) (hB : Nums w w.heap.size B (m * 2) g) :
    Calls Try.prog 20 #[.slice A n c, .slice B m d] w fun e w' => e = .returned (.bool (tv (SP n f m g))) ∧ Below w.heap.size w w' := by
  have HA := Lib.hid hA
  have HB := Lib.hid hB
  have PY : Hid (n = m → (∀ i, i < n → f (i * 2) = g (i * 2) ∧ f (i * 2 + 1) = g (i * 2 + 1)) → tv (SP n f m g) = true) := Lib.hid fun h1 h2 => tv_yes ⟨h1, h2⟩
  have PN : Hid (∀ i, i < n → ¬ (f (i * 2) = g (i * 2) ∧ f (i * 2 + 1) = g (i * 2 + 1)) → tv (SP n f m g) = false) := Lib.hid fun i hi h => tv_no fun o => h (o.2 i hi)
  have PL : Hid (n ≠ m → tv (SP n f m g) = false) := Lib.hid fun h => tv_no fun o => h o.1
  clear hA hB
  generalize tv (SP n f m g) = r at PY PN PL ⊢
  by_cases hnm : n = m
  · subst hnm
    have PYy := Lib.hid (PY.out rfl)
    clear PL PY
    go_enter Try.func20, Try.ntmps20
    go_wp2_with fail
    go_loopw [5] (fun i wr => ∃ k : Nat, k ≤ n ∧ i = .int .i64 (k : Int) ∧ Hid (Below w.heap.size w wr) ∧ Hid (∀ j, j < k → f (j * 2) = g (j * 2) ∧ f (j * 2 + 1) = g (j * 2 + 1))) (fun i _ => n - (intOf i).toNat)
    case atStart => exact ⟨0, Nat.zero_le _, rfl, Lib.hid (Below.refl _ _), Lib.hid fun j hj => by omega⟩
    case round =>
      obtain ⟨k, hk, rfl, HW, HD⟩ := hrel
      have e0 : (0 : Int) ≤ (k : Int) := Int.natCast_nonneg _
      by_cases hlt : k < n
      · obtain ⟨b1, o1, rfl, hb1, hc1⟩ := (HA.out.below HW.out (Nat.le_refl _)) (by omega)
        obtain ⟨b2, o2, rfl, hb2, hc2⟩ := (HB.out.below HW.out (Nat.le_refl _)) (by omega)
        obtain ⟨a0, a1⟩ := Blk.cells_at hc1 hlt
        obtain ⟨x0, x1⟩ := Blk.cells_at hc2 hlt
        have e1 : (k : Int) < (n : Int) := by omega
        have PNk := Lib.hid (PN.out k hlt)
        have HDk : Hid ((f (k * 2) = g (k * 2) ∧ f (k * 2 + 1) = g (k * 2 + 1)) → ∀ j, j < k + 1 → f (j * 2) = g (j * 2) ∧ f (j * 2 + 1) = g (j * 2 + 1)) := Lib.hid fun h j hj => by
          by_cases e : j = k
          · rw [e]; exact h
          · exact HD.out j (by omega)
        generalize f (k * 2) = p0 at a0 PNk HDk
        generalize g (k * 2) = q0 at x0 PNk HDk
        generalize f (k * 2 + 1) = p1 at a1 PNk HDk
        generalize g (k * 2 + 1) = q1 at x1 PNk HDk
        clear hc1 hc2 hk HD PN
        go_upto_region 6 with fail
        have a0 := bey_cell a0
        have x0 := bey_cell x0
        have a1 := bey_cell a1
        have x1 := bey_cell x1
        have R : (p0 ≠ q0) ∨ (p0 = q0 ∧ p1 ≠ q1) ∨ (p0 = q0 ∧ p1 = q1) := by
          by_cases h0 : p0 = q0
          · skip
            by_cases h1 : p1 = q1
            · exact .inr (.inr (⟨h0, h1⟩))
            · exact .inr (.inl (⟨h0, h1⟩))
          · exact .inl (h0)
        rcases R with hq | ⟨rfl, hq⟩ | ⟨rfl, rfl⟩
        · have HE := Lib.hid (PNk.out (fun h => hq h.1))
          have hq1 := eq_false hq
          have hq2 : (p0 == q0) = false := by simpa using hq
          clear HDk PNk hq
          refine wp_region_below (by kernel_rfl) (by kernel_rfl) ?_
          repeat (go_big_quiet_step (fail))
          refine wpQuiet_nil ?_
          rintro _ ⟨pq, rfl⟩
          have HQ := Lib.hid (below_then HW.out pq.h)
          generalize pq.to = wq at HQ ⊢
          clear a0 x0 a1 x1
          go_wp2_with fail
          go_ret
          exact ⟨Ft.ret_bool HE.out.symm, HQ.out⟩
        · have HE := Lib.hid (PNk.out (fun h => hq h.2))
          have hq1 := eq_false hq
          have hq2 : (p1 == q1) = false := by simpa using hq
          clear HDk PNk hq
          refine wp_region_below (by kernel_rfl) (by kernel_rfl) ?_
          repeat (go_big_quiet_step (fail))
          refine wpQuiet_nil ?_
          rintro _ ⟨pq, rfl⟩
          have HQ := Lib.hid (below_then HW.out pq.h)
          generalize pq.to = wq at HQ ⊢
          clear a0 x0 a1 x1
          go_wp2_with fail
          go_ret
          exact ⟨Ft.ret_bool HE.out.symm, HQ.out⟩
        · have HDD := Lib.hid (HDk.out ⟨rfl, rfl⟩)
          clear HDk PNk
          refine wp_region_below (by kernel_rfl) (by kernel_rfl) ?_
          repeat (go_big_quiet_step (fail))
          refine wpQuiet_nil ?_
          rintro _ ⟨pq, rfl⟩
          have HQ := Lib.hid (below_then HW.out pq.h)
          generalize pq.to = wq at HQ ⊢
          clear a0 x0 a1 x1
          go_wp2_with fail
          go_roundw
          case rel => exact ⟨k + 1, by omega, by go_num, HQ, HDD⟩
          case measure => simp [intOf]; omega
      · have HE := Lib.hid (PYy.out fun j hj => HD.out j (by omega))
        have e1 : ¬ (k : Int) < (n : Int) := by omega
        clear hk HD
        go_wp2_with fail
        go_ret
        exact ⟨Ft.ret_bool HE.out.symm, HW.out⟩
  · have HE := Lib.hid (PL.out hnm)
    have g1 : ((n : Int) != (m : Int)) = true := by simp; omega
    have g2 : ((n : Int) == (m : Int)) = false := by simp; omega
    clear PY PN PL
    go_enter Try.func20, Try.ntmps20
    go_wp2_with fail
    go_ret
    exact ⟨Ft.ret_bool HE.out.symm, Below.refl _ _⟩
set_option maxRecDepth 100000 in
set_option maxHeartbeats 2000000 in
theorem equal_same (A : Option Addr) (n c : Nat) (f : Nat → Int) (B : Option Addr) (m d : Nat) (g : Nat → Int) (hn : n ≤ 1048576) (hm : m ≤ 1048576) (w : World) (hA : Nums w w.heap.size A (n * 2) f) (hB : Nums w w.heap.size B (m * 2) g) :
    Calls Try.prog 57 #[.slice A n c, .slice B m d] w fun e w' => e = .returned (.bool (tv (SP n f m g))) ∧ Below w.heap.size w w' := by
  have HA := Lib.hid hA
  have HB := Lib.hid hB
  have PY : Hid (n = m → (∀ i, i < n → f (i * 2) = g (i * 2) ∧ f (i * 2 + 1) = g (i * 2 + 1)) → tv (SP n f m g) = true) := Lib.hid fun h1 h2 => tv_yes ⟨h1, h2⟩
  have PN : Hid (∀ i, i < n → ¬ (f (i * 2) = g (i * 2) ∧ f (i * 2 + 1) = g (i * 2 + 1)) → tv (SP n f m g) = false) := Lib.hid fun i hi h => tv_no fun o => h (o.2 i hi)
  have PL : Hid (n ≠ m → tv (SP n f m g) = false) := Lib.hid fun h => tv_no fun o => h o.1
  clear hA hB
  generalize tv (SP n f m g) = r at PY PN PL ⊢
  by_cases hnm : n = m
  · subst hnm
    have PYy := Lib.hid (PY.out rfl)
    clear PL PY
    go_enter Try.func57, Try.ntmps57
    go_wp2_with fail
    go_loopw [5, 13] (fun _ i wr => ∃ k : Nat, k ≤ n ∧ i = .int .i64 (k : Int) ∧ Hid (Below w.heap.size w wr) ∧ Hid (∀ j, j < k → f (j * 2) = g (j * 2) ∧ f (j * 2 + 1) = g (j * 2 + 1))) (fun _ i _ => n - (intOf i).toNat)
    case atStart => exact ⟨0, Nat.zero_le _, rfl, Lib.hid (Below.refl _ _), Lib.hid fun j hj => by omega⟩
    case round =>
      obtain ⟨k, hk, rfl, HW, HD⟩ := hrel
      have e0 : (0 : Int) ≤ (k : Int) := Int.natCast_nonneg _
      by_cases hlt : k < n
      · obtain ⟨b1, o1, rfl, hb1, hc1⟩ := (HA.out.below HW.out (Nat.le_refl _)) (by omega)
        obtain ⟨b2, o2, rfl, hb2, hc2⟩ := (HB.out.below HW.out (Nat.le_refl _)) (by omega)
        obtain ⟨a0, a1⟩ := Blk.cells_at hc1 hlt
        obtain ⟨x0, x1⟩ := Blk.cells_at hc2 hlt
        have e1 : (k : Int) < (n : Int) := by omega
        have PNk := Lib.hid (PN.out k hlt)
        have HDk : Hid ((f (k * 2) = g (k * 2) ∧ f (k * 2 + 1) = g (k * 2 + 1)) → ∀ j, j < k + 1 → f (j * 2) = g (j * 2) ∧ f (j * 2 + 1) = g (j * 2 + 1)) := Lib.hid fun h j hj => by
          by_cases e : j = k
          · rw [e]; exact h
          · exact HD.out j (by omega)
        generalize f (k * 2) = p0 at a0 PNk HDk
        generalize g (k * 2) = q0 at x0 PNk HDk
        generalize f (k * 2 + 1) = p1 at a1 PNk HDk
        generalize g (k * 2 + 1) = q1 at x1 PNk HDk
        clear hc1 hc2 hk HD PN
        go_upto_region 6 with fail
        have a0 := bey_cell a0
        have x0 := bey_cell x0
        have a1 := bey_cell a1
        have x1 := bey_cell x1
        have R : (p0 ≠ q0) ∨ (p0 = q0 ∧ p1 ≠ q1) ∨ (p0 = q0 ∧ p1 = q1) := by
          by_cases h0 : p0 = q0
          · skip
            by_cases h1 : p1 = q1
            · exact .inr (.inr (⟨h0, h1⟩))
            · exact .inr (.inl (⟨h0, h1⟩))
          · exact .inl (h0)
        rcases R with hq | ⟨rfl, hq⟩ | ⟨rfl, rfl⟩
        · have HE := Lib.hid (PNk.out (fun h => hq h.1))
          have hq1 := eq_false hq
          have hq2 : (p0 == q0) = false := by simpa using hq
          clear HDk PNk hq
          refine wp_region_below (by kernel_rfl) (by kernel_rfl) ?_
          repeat (go_big_quiet_step (fail))
          refine wpQuiet_nil ?_
          rintro _ ⟨pq, rfl⟩
          have HQ := Lib.hid (below_then HW.out pq.h)
          generalize pq.to = wq at HQ ⊢
          clear a0 x0 a1 x1
          go_wp2_with fail
          go_ret
          exact ⟨Ft.ret_bool HE.out.symm, HQ.out⟩
        · have HE := Lib.hid (PNk.out (fun h => hq h.2))
          have hq1 := eq_false hq
          have hq2 : (p1 == q1) = false := by simpa using hq
          clear HDk PNk hq
          refine wp_region_below (by kernel_rfl) (by kernel_rfl) ?_
          repeat (go_big_quiet_step (fail))
          refine wpQuiet_nil ?_
          rintro _ ⟨pq, rfl⟩
          have HQ := Lib.hid (below_then HW.out pq.h)
          generalize pq.to = wq at HQ ⊢
          clear a0 x0 a1 x1
          go_wp2_with fail
          go_ret
          exact ⟨Ft.ret_bool HE.out.symm, HQ.out⟩
        · have HDD := Lib.hid (HDk.out ⟨rfl, rfl⟩)
          clear HDk PNk
          refine wp_region_below (by kernel_rfl) (by kernel_rfl) ?_
          repeat (go_big_quiet_step (fail))
          refine wpQuiet_nil ?_
          rintro _ ⟨pq, rfl⟩
          have HQ := Lib.hid (below_then HW.out pq.h)
          generalize pq.to = wq at HQ ⊢
          clear a0 x0 a1 x1
          go_wp2_with fail
          go_roundw
          case rel => exact ⟨k + 1, by omega, by go_num, HQ, HDD⟩
          case measure => simp [intOf]; omega
      · have HE := Lib.hid (PYy.out fun j hj => HD.out j (by omega))
        have e1 : ¬ (k : Int) < (n : Int) := by omega
        clear hk HD
        go_wp2_with fail
        go_ret
        exact ⟨Ft.ret_bool HE.out.symm, HW.out⟩
  · have HE := Lib.hid (PL.out hnm)
    have g1 : ((n : Int) != (m : Int)) = true := by simp; omega
    have g2 : ((n : Int) == (m : Int)) = false := by simp; omega
    clear PY PN PL
    go_enter Try.func57, Try.ntmps57
    go_wp2_with fail
    go_ret
    exact ⟨Ft.ret_bool HE.out.symm, Below.refl _ _⟩
theorem impl_same (A : Option Addr) (n c : Nat) (f : Nat → Int) (B : Option Addr) (m d : Nat) (g : Nat → Int) (hn : n ≤ 1048576) (hm : m ≤ 1048576) (w : World) (hA : Nums w w.heap.size A (n * 2) f) (hB : Nums w w.heap.size B (m * 2) g) :
    Calls Try.prog 21 #[.slice A n c, .slice B m d] w fun e w' => e = .returned (.bool (tv (SP n f m g))) ∧ Below w.heap.size w w' := by
  have C := Lib.hid (equal_same A n c f B m d g hn hm w hA hB)
  clear hA hB
  generalize tv (SP n f m g) = r at C ⊢
  go_enter Try.func21, Try.ntmps21
  go_wp2_with fail
  refine C.out.mono ?_
  rintro e w2 ⟨rfl, b2⟩
  go_wp2_with fail
  go_ret
  exact ⟨rfl, b2⟩
end Go.Proofs.Ytgclhkiiaclkgab.N3
