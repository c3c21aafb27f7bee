/- Whether two patterns are equal: the spec's and the program's. -/
import Derived.Test.YtnojnikophpnoaaPtLib
import Derived.Laws.StructEq
import Derived.Deep.DeepCutAuto
import Derived.Deep.RegionHeld3
import Derived.RegionTactic
namespace Go.Proofs.Ytnojnikophpnoaa.Pu
set_option linter.unusedVariables false
open Go.RowKit Ft Is Ge Qb Pt

/-- Two lists of numbers are equal. -/
def IeP (n : Nat) (f : Nat → Int) (m : Nat) (g : Nat → Int) : Prop := n = m ∧ ∀ i, i < n → f i = g i
set_option maxRecDepth 100000 in
set_option maxHeartbeats 2000000 in
theorem spec_ints (A : Option Addr) (n c : Nat) (f : Nat → Int) (B : Option Addr) (m d : Nat) (g : Nat → Int) (hn : n ≤ 1048576) (hm : m ≤ 1048576) (w : World) (hA : Nums w w.heap.size A n f) (hB : Nums w w.heap.size B m g) :
    Calls Try.prog 47 #[.slice A n c, .slice B m d] w fun e w' => e = .returned (.bool (tv (IeP n f m g))) ∧ Below w.heap.size w w' := by
  have HA := Lib.hid hA
  have HB := Lib.hid hB
  have PY : Hid (n = m → (∀ i, i < n → f i = g i) → tv (IeP n f m g) = true) := Lib.hid fun h1 h2 => tv_yes ⟨h1, h2⟩
  have PN : Hid (∀ i, i < n → ¬ f i = g i → tv (IeP n f m g) = false) := Lib.hid fun i hi h => tv_no fun o => h (o.2 i hi)
  have PL : Hid (n ≠ m → tv (IeP n f m g) = false) := Lib.hid fun h => tv_no fun o => h o.1
  clear hA hB
  generalize tv (IeP n f m g) = r at PY PN PL ⊢
  by_cases hnm : n = m
  · subst hnm
    have PYy := Lib.hid (PY.out rfl)
    clear PL PY
    go_enter Try.func47, Try.ntmps47
    go_wp2_with fail
    go_loopw [5] (fun i wr => ∃ k : Nat, k ≤ n ∧ i = .int .i64 (k : Int) ∧ Hid (Below w.heap.size w wr) ∧ Hid (∀ j, j < k → f j = g j)) (fun i _ => n - (intOf i).toNat)
    case atStart => exact ⟨0, Nat.zero_le _, rfl, Lib.hid (Below.refl _ _), Lib.hid fun j hj => by omega⟩
    case round =>
      obtain ⟨k, hk, rfl, HW, HD⟩ := hrel
      have e0 : (0 : Int) ≤ (k : Int) := Int.natCast_nonneg _
      by_cases hlt : k < n
      · obtain ⟨b1, o1, rfl, hb1, hc1⟩ := (HA.out.below HW.out (Nat.le_refl _)) (by omega)
        obtain ⟨b2, o2, rfl, hb2, hc2⟩ := (HB.out.below HW.out (Nat.le_refl _)) (by omega)
        have a0 := hc1 k hlt
        have x0 := hc2 k hlt
        have e1 : (k : Int) < (n : Int) := by omega
        have PNk := Lib.hid (PN.out k hlt)
        have HDk : Hid (f k = g k → ∀ j, j < k + 1 → f j = g j) := Lib.hid fun h j hj => by
          by_cases e : j = k
          · rw [e]; exact h
          · exact HD.out j (by omega)
        generalize f k = px at a0 PNk HDk
        generalize g k = qx at x0 PNk HDk
        clear hc1 hc2 hk HD PN
        go_upto_region 6 with fail
        have a0 := bey_cell a0
        have x0 := bey_cell x0
        by_cases hq : px = qx
        · subst hq
          have HDD := Lib.hid (HDk.out rfl)
          clear HDk PNk
          refine wp_region_below (by kernel_rfl) (by kernel_rfl) ?_
          repeat (go_big_quiet_step (fail))
          refine wpQuiet_nil ?_
          rintro _ ⟨pq, rfl⟩
          have HQ := Lib.hid (below_then HW.out pq.h)
          generalize pq.to = wq at HQ ⊢
          clear a0 x0
          go_wp2_with fail
          go_roundw
          case rel => exact ⟨k + 1, by omega, by go_num, HQ, HDD⟩
          case measure => simp [intOf]; omega
        · have HE := Lib.hid (PNk.out hq)
          have hq1 := eq_false hq
          have hq2 : (px == qx) = false := by simpa using hq
          clear HDk PNk hq
          refine wp_region_below (by kernel_rfl) (by kernel_rfl) ?_
          repeat (go_big_quiet_step (fail))
          refine wpQuiet_nil ?_
          rintro _ ⟨pq, rfl⟩
          have HQ := Lib.hid (below_then HW.out pq.h)
          generalize pq.to = wq at HQ ⊢
          clear a0 x0
          go_wp2_with fail
          go_ret
          exact ⟨Ft.ret_bool HE.out.symm, HQ.out⟩
      · have HE := Lib.hid (PYy.out fun j hj => HD.out j (by omega))
        have e1 : ¬ (k : Int) < (n : Int) := by omega
        clear hk HD
        go_wp2_with fail
        go_ret
        exact ⟨Ft.ret_bool HE.out.symm, HW.out⟩
  · have HE := Lib.hid (PL.out hnm)
    have g1 : ((n : Int) != (m : Int)) = true := by simp; omega
    have g2 : ((n : Int) == (m : Int)) = false := by simp; omega
    clear PY PN PL
    go_enter Try.func47, Try.ntmps47
    go_wp2_with fail
    go_ret
    exact ⟨Ft.ret_bool HE.out.symm, Below.refl _ _⟩
set_option maxRecDepth 100000 in
set_option maxHeartbeats 2000000 in
theorem lib_ints (A : Option Addr) (n c : Nat) (f : Nat → Int) (B : Option Addr) (m d : Nat) (g : Nat → Int) (hn : n ≤ 1048576) (hm : m ≤ 1048576) (w : World) (hA : Nums w w.heap.size A n f) (hB : Nums w w.heap.size B m g) :
    Calls Try.prog 87 #[.slice A n c, .slice B m d] w fun e w' => e = .returned (.bool (tv (IeP n f m g))) ∧ Below w.heap.size w w' := by
  have HA := Lib.hid hA
  have HB := Lib.hid hB
  have PY : Hid (n = m → (∀ i, i < n → f i = g i) → tv (IeP n f m g) = true) := Lib.hid fun h1 h2 => tv_yes ⟨h1, h2⟩
  have PN : Hid (∀ i, i < n → ¬ f i = g i → tv (IeP n f m g) = false) := Lib.hid fun i hi h => tv_no fun o => h (o.2 i hi)
  have PL : Hid (n ≠ m → tv (IeP n f m g) = false) := Lib.hid fun h => tv_no fun o => h o.1
  clear hA hB
  generalize tv (IeP n f m g) = r at PY PN PL ⊢
  by_cases hnm : n = m
  · subst hnm
    have PYy := Lib.hid (PY.out rfl)
    clear PL PY
    go_enter Try.func87, Try.ntmps87
    go_wp2_with fail
    go_loopw [5, 13] (fun _ i wr => ∃ k : Nat, k ≤ n ∧ i = .int .i64 (k : Int) ∧ Hid (Below w.heap.size w wr) ∧ Hid (∀ j, j < k → f j = g j)) (fun _ i _ => n - (intOf i).toNat)
    case atStart => exact ⟨0, Nat.zero_le _, rfl, Lib.hid (Below.refl _ _), Lib.hid fun j hj => by omega⟩
    case round =>
      obtain ⟨k, hk, rfl, HW, HD⟩ := hrel
      have e0 : (0 : Int) ≤ (k : Int) := Int.natCast_nonneg _
      by_cases hlt : k < n
      · obtain ⟨b1, o1, rfl, hb1, hc1⟩ := (HA.out.below HW.out (Nat.le_refl _)) (by omega)
        obtain ⟨b2, o2, rfl, hb2, hc2⟩ := (HB.out.below HW.out (Nat.le_refl _)) (by omega)
        have a0 := hc1 k hlt
        have x0 := hc2 k hlt
        have e1 : (k : Int) < (n : Int) := by omega
        have PNk := Lib.hid (PN.out k hlt)
        have HDk : Hid (f k = g k → ∀ j, j < k + 1 → f j = g j) := Lib.hid fun h j hj => by
          by_cases e : j = k
          · rw [e]; exact h
          · exact HD.out j (by omega)
        generalize f k = px at a0 PNk HDk
        generalize g k = qx at x0 PNk HDk
        clear hc1 hc2 hk HD PN
        go_upto_region 6 with fail
        have a0 := bey_cell a0
        have x0 := bey_cell x0
        by_cases hq : px = qx
        · subst hq
          have HDD := Lib.hid (HDk.out rfl)
          clear HDk PNk
          refine wp_region_below (by kernel_rfl) (by kernel_rfl) ?_
          repeat (go_big_quiet_step (fail))
          refine wpQuiet_nil ?_
          rintro _ ⟨pq, rfl⟩
          have HQ := Lib.hid (below_then HW.out pq.h)
          generalize pq.to = wq at HQ ⊢
          clear a0 x0
          go_wp2_with fail
          go_roundw
          case rel => exact ⟨k + 1, by omega, by go_num, HQ, HDD⟩
          case measure => simp [intOf]; omega
        · have HE := Lib.hid (PNk.out hq)
          have hq1 := eq_false hq
          have hq2 : (px == qx) = false := by simpa using hq
          clear HDk PNk hq
          refine wp_region_below (by kernel_rfl) (by kernel_rfl) ?_
          repeat (go_big_quiet_step (fail))
          refine wpQuiet_nil ?_
          rintro _ ⟨pq, rfl⟩
          have HQ := Lib.hid (below_then HW.out pq.h)
          generalize pq.to = wq at HQ ⊢
          clear a0 x0
          go_wp2_with fail
          go_ret
          exact ⟨Ft.ret_bool HE.out.symm, HQ.out⟩
      · have HE := Lib.hid (PYy.out fun j hj => HD.out j (by omega))
        have e1 : ¬ (k : Int) < (n : Int) := by omega
        clear hk HD
        go_wp2_with fail
        go_ret
        exact ⟨Ft.ret_bool HE.out.symm, HW.out⟩
  · have HE := Lib.hid (PL.out hnm)
    have g1 : ((n : Int) != (m : Int)) = true := by simp; omega
    have g2 : ((n : Int) == (m : Int)) = false := by simp; omega
    clear PY PN PL
    go_enter Try.func87, Try.ntmps87
    go_wp2_with fail
    go_ret
    exact ⟨Ft.ret_bool HE.out.symm, Below.refl _ _⟩
theorem guard_seam : Try.prog.eqGuardType Try.prog.depth 51 = false := by kernel_rfl
set_option maxHeartbeats 1000000 in
theorem neq_seam (a0 a1 a2 a3 b0 b1 b2 b3 : Int) (w : World) : (binOp .neq 51 (seV a0 a1 a2 a3) (seV b0 b1 b2 b3)).run Try.prog w = .ok (.bool (!(a0 == b0 && (a1 == b1 && (a2 == b2 && a3 == b3))))) w := by
  have hS : Try.prog.underlying 51 = some (.struct (Try.prog.fieldsOf 51)) := by kernel_rfl
  have hp : Try.prog.stoodInHeld 51 = false := by kernel_rfl
  unfold seV
  rw [run_neq_struct, show (10000 : Nat) = 9999 + 1 from rfl, run_equalIn_agg w 9999 51 _ _ hS hp]
  simp only [Program.fieldsOf, Try.underlying51]
  go_simp
  by_cases h1 : a0 = b0
  · by_cases h2 : a1 = b1
    · by_cases h3 : a2 = b2
      · by_cases h4 : a3 = b3 <;> simp [h1, h2, h3, h4]
      · simp [h1, h2, h3]
    · simp [h1, h2]
  · simp [h1]
/-- The seams at one place are equal. -/
def seq (f g : Nat → Int) (i : Nat) : Bool := f (i * 4) == g (i * 4) && (f (i * 4 + 1) == g (i * 4 + 1) && (f (i * 4 + 2) == g (i * 4 + 2) && f (i * 4 + 3) == g (i * 4 + 3)))
def SeP (n : Nat) (f : Nat → Int) (m : Nat) (g : Nat → Int) : Prop := n = m ∧ ∀ i, i < n → seq f g i = true
set_option maxRecDepth 100000 in
set_option maxHeartbeats 2000000 in
theorem lib_seams (A : Option Addr) (n c : Nat) (f : Nat → Int) (B : Option Addr) (m d : Nat) (g : Nat → Int) (hn : n ≤ 1048576) (hm : m ≤ 1048576) (w : World) (hA : Nums w w.heap.size A (n * 4) f) (hB : Nums w w.heap.size B (m * 4) g) :
    Calls Try.prog 52 #[.slice A n c, .slice B m d] w fun e w' => e = .returned (.bool (tv (SeP n f m g))) ∧ Below w.heap.size w w' := by
  have HA := Lib.hid hA
  have HB := Lib.hid hB
  have PY : Hid (n = m → (∀ i, i < n → seq f g i = true) → tv (SeP n f m g) = true) := Lib.hid fun h1 h2 => tv_yes ⟨h1, h2⟩
  have PN : Hid (∀ i, i < n → seq f g i = false → tv (SeP n f m g) = false) := Lib.hid fun i hi h => tv_no fun o => by rw [o.2 i hi] at h; cases h
  have PL : Hid (n ≠ m → tv (SeP n f m g) = false) := Lib.hid fun h => tv_no fun o => h o.1
  have hgd := guard_seam
  clear hA hB
  generalize tv (SeP n f m g) = r at PY PN PL ⊢
  by_cases hnm : n = m
  · subst hnm
    have PYy := Lib.hid (PY.out rfl)
    clear PL PY
    go_enter Try.func52, Try.ntmps52
    go_wp2_with fail
    go_loopw [5, 13] (fun _ i wr => ∃ k : Nat, k ≤ n ∧ i = .int .i64 (k : Int) ∧ Hid (Below w.heap.size w wr) ∧ Hid (∀ j, j < k → seq f g j = true)) (fun _ i _ => n - (intOf i).toNat)
    case atStart => exact ⟨0, Nat.zero_le _, rfl, Lib.hid (Below.refl _ _), Lib.hid fun j hj => by omega⟩
    case round =>
      obtain ⟨k, hk, rfl, HW, HD⟩ := hrel
      have e0 : (0 : Int) ≤ (k : Int) := Int.natCast_nonneg _
      by_cases hlt : k < n
      · obtain ⟨b1, o1, rfl, hb1, hc1⟩ := (HA.out.below HW.out (Nat.le_refl _)) (by omega)
        obtain ⟨b2, o2, rfl, hb2, hc2⟩ := (HB.out.below HW.out (Nat.le_refl _)) (by omega)
        obtain ⟨x0, x1, x2, x3⟩ := four_cells hc1 hlt
        obtain ⟨y0, y1, y2, y3⟩ := four_cells hc2 hlt
        have hq := fun w => neq_seam (f (k * 4)) (f (k * 4 + 1)) (f (k * 4 + 2)) (f (k * 4 + 3)) (g (k * 4)) (g (k * 4 + 1)) (g (k * 4 + 2)) (g (k * 4 + 3)) w
        unfold seV at hq
        have hqr : ∀ b : Bool, seq f g k = b → (f (k * 4) == g (k * 4) && (f (k * 4 + 1) == g (k * 4 + 1) && (f (k * 4 + 2) == g (k * 4 + 2) && f (k * 4 + 3) == g (k * 4 + 3)))) = b := fun b h => h
        simp only [hqr _ rfl] at hq
        have e1 : (k : Int) < (n : Int) := by omega
        have PNk := Lib.hid (PN.out k hlt)
        have HDk := Lib.hid (fun h => step_all (p := fun j => seq f g j) HD.out (k := k) h)
        generalize seq f g k = rr at hq PNk HDk
        generalize f (k * 4) = px0, f (k * 4 + 1) = px1, f (k * 4 + 2) = px2, f (k * 4 + 3) = px3 at x0 x1 x2 x3 hq
        generalize g (k * 4) = py0, g (k * 4 + 1) = py1, g (k * 4 + 2) = py2, g (k * 4 + 3) = py3 at y0 y1 y2 y3 hq
        clear hc1 hc2 hk HD PN hqr
        have x0 := bey_cell x0
        have x1 := bey_cell x1
        have x2 := bey_cell x2
        have x3 := bey_cell x3
        have y0 := bey_cell y0
        have y1 := bey_cell y1
        have y2 := bey_cell y2
        have y3 := bey_cell y3
        go_wp2_with fail
        refine wp_region_below (by kernel_rfl) (by kernel_rfl) ?_
        repeat (go_big_quiet_step (fail))
        refine wpQuiet_nil ?_
        rintro _ ⟨pq, rfl⟩
        have HQ := Lib.hid (below_then HW.out pq.h)
        generalize pq.to = wq at HQ ⊢
        clear x0 x1 x2 x3 y0 y1 y2 y3 hq
        cases rr
        · have HE := Lib.hid (PNk.out rfl)
          go_wp2_with fail
          go_ret
          exact ⟨Ft.ret_bool HE.out.symm, HQ.out⟩
        · have HDD := Lib.hid (HDk.out rfl)
          go_wp2_with fail
          go_roundw
          case rel => exact ⟨k + 1, by omega, by go_num, HQ, HDD⟩
          case measure => simp [intOf]; omega
      · have HE := Lib.hid (PYy.out fun j hj => HD.out j (by omega))
        have e1 : ¬ (k : Int) < (n : Int) := by omega
        clear hk HD
        go_wp2_with fail
        go_ret
        exact ⟨Ft.ret_bool HE.out.symm, HW.out⟩
  · have HE := Lib.hid (PL.out hnm)
    have g1 : ((n : Int) != (m : Int)) = true := by simp; omega
    have g2 : ((n : Int) == (m : Int)) = false := by simp; omega
    clear PY PN PL
    go_enter Try.func52, Try.ntmps52
    go_wp2_with fail
    go_ret
    exact ⟨Ft.ret_bool HE.out.symm, Below.refl _ _⟩
/-- Two pieces are equal. -/
def PeP (s : ByteArray) (m : Nat) (d : Nat → Int) (s' : ByteArray) (m' : Nat) (d' : Nat → Int) : Prop := s = s' ∧ IeP m d m' d'
noncomputable def pe (N : Nat → ByteArray) (ms : Nat → Nat) (ds : Nat → Nat → Int) (N' : Nat → ByteArray) (ms' : Nat → Nat) (ds' : Nat → Nat → Int) (i : Nat) : Bool := tv (PeP (N i) (ms i) (ds i) (N' i) (ms' i) (ds' i))
theorem ba_eq {s s' : ByteArray} (h : s.toList = s'.toList) : s = s' := by
  rw [ByteArray.toList_eq, ByteArray.toList_eq] at h
  exact ByteArray.ext (Array.toList_inj.1 h)
set_option maxHeartbeats 1000000 in
theorem equals (s s' : ByteArray) (A B : Option Addr) (n c m d : Nat) (f g : Nat → Int) (hn : n ≤ 1048576) (hm : m ≤ 1048576) (w : World) (hA : Nums w w.heap.size A n f) (hB : Nums w w.heap.size B m g) :
    Calls Try.prog 51 #[pcV s A n c, pcV s' B m d] w fun e w' => e = .returned (.bool (tv (PeP s n f s' m g))) ∧ Below w.heap.size w w' := by
  have BB := Lib.hid (below2 w (.cells #[.string s, .slice A n c] 62) (.cells #[.string s', .slice B m d] 62))
  have C := Lib.hid (lib_ints A n c f B m d g hn hm _ ((hA.below BB.out (Nat.le_refl _)).more BB.out.size) ((hB.below BB.out (Nat.le_refl _)).more BB.out.size))
  have HY : Hid (s.toList = s'.toList → tv (PeP s n f s' m g) = tv (IeP n f m g)) := Lib.hid fun h => by
    have e := ba_eq h
    by_cases q : IeP n f m g
    · rw [tv_yes q, tv_yes ⟨e, q⟩]
    · rw [tv_no q, tv_no fun o => q o.2]
  have HN : Hid (¬ s.toList = s'.toList → tv (PeP s n f s' m g) = false) := Lib.hid fun h => tv_no fun o => h (by rw [o.1])
  clear hA hB
  unfold pcV
  generalize tv (PeP s n f s' m g) = r at HY HN ⊢
  generalize tv (IeP n f m g) = q at C HY
  by_cases hs : s.toList = s'.toList
  · have HE := Lib.hid (HY.out hs)
    have q1 : (s.toList == s'.toList) = true := by simpa using hs
    clear HY HN
    go_enter Try.func51, Try.ntmps51
    go_wp2_with fail
    refine C.out.mono ?_
    rintro e w1 ⟨rfl, b1⟩
    have B1 := Lib.hid (below_then BB.out b1)
    clear b1
    go_wp2_with fail
    go_ret
    exact ⟨Ft.ret_bool HE.out.symm, B1.out⟩
  · have HE := Lib.hid (HN.out hs)
    have q1 : (s.toList == s'.toList) = false := by simpa using hs
    clear HY HN C
    go_enter Try.func51, Try.ntmps51
    go_wp2_with fail
    go_ret
    exact ⟨Ft.ret_bool HE.out.symm, BB.out⟩
/-- Two lists of pieces are equal. -/
def PsP (n : Nat) (N : Nat → ByteArray) (ms : Nat → Nat) (ds : Nat → Nat → Int) (n' : Nat) (N' : Nat → ByteArray) (ms' : Nat → Nat) (ds' : Nat → Nat → Int) : Prop := n = n' ∧ ∀ i, i < n → pe N ms ds N' ms' ds' i = true
set_option maxRecDepth 100000 in
set_option maxHeartbeats 2000000 in
theorem lib_pieces (A : Option Addr) (n c : Nat) (N : Nat → ByteArray) (ms : Nat → Nat) (ds : Nat → Nat → Int) (B : Option Addr) (m d : Nat) (N' : Nat → ByteArray) (ms' : Nat → Nat) (ds' : Nat → Nat → Int) (hn : n ≤ 1048576) (hm : m ≤ 1048576) (hz : ∀ i, i < n → ms i ≤ 1048576) (hz' : ∀ i, i < m → ms' i ≤ 1048576) (w : World) (hA : Pcs w A n N ms ds) (hB : Pcs w B m N' ms' ds') :
    Calls Try.prog 50 #[.slice A n c, .slice B m d, .func (.func 51) #[] #[]] w fun e w' => e = .returned (.bool (tv (PsP n N ms ds m N' ms' ds'))) ∧ Below w.heap.size w w' := by
  obtain ⟨As1, cs1, k1⟩ := hA
  obtain ⟨As2, cs2, k2⟩ := hB
  have HA := Lib.hid k1
  have HB := Lib.hid k2
  have PY : Hid (n = m → (∀ i, i < n → pe N ms ds N' ms' ds' i = true) → tv (PsP n N ms ds m N' ms' ds') = true) := Lib.hid fun h1 h2 => tv_yes ⟨h1, h2⟩
  have PN : Hid (∀ i, i < n → pe N ms ds N' ms' ds' i = false → tv (PsP n N ms ds m N' ms' ds') = false) := Lib.hid fun i hi h => tv_no fun o => by rw [o.2 i hi] at h; cases h
  have PL : Hid (n ≠ m → tv (PsP n N ms ds m N' ms' ds') = false) := Lib.hid fun h => tv_no fun o => h o.1
  have CE : Hid (n = m → ∀ i, i < n → ∀ w, Nums w w.heap.size (As1 i) (ms i) (ds i) → Nums w w.heap.size (As2 i) (ms' i) (ds' i) → Calls Try.prog 51 #[pcV (N i) (As1 i) (ms i) (cs1 i), pcV (N' i) (As2 i) (ms' i) (cs2 i)] w fun e w' => e = .returned (.bool (pe N ms ds N' ms' ds' i)) ∧ Below w.heap.size w w') := Lib.hid fun e i hi w h1 h2 => equals _ _ _ _ _ _ _ _ _ _ (hz i hi) (hz' i (by omega)) w h1 h2
  clear k1 k2 hz hz'
  generalize tv (PsP n N ms ds m N' ms' ds') = r at PY PN PL ⊢
  generalize pe N ms ds N' ms' ds' = E at PY PN CE
  by_cases hnm : n = m
  · subst hnm
    have PYy := Lib.hid (PY.out rfl)
    have CF := Lib.hid (CE.out rfl)
    clear PL PY CE
    go_enter Try.func50, Try.ntmps50
    go_wp2_with fail
    go_loopw [7, 8, 9, 17] (fun _ _ _ i wr => ∃ k : Nat, k ≤ n ∧ i = .int .i64 (k : Int) ∧ Hid (Below w.heap.size w wr) ∧ Hid (∀ j, j < k → E j = true)) (fun _ _ _ i _ => n - (intOf i).toNat)
    case atStart => exact ⟨0, Nat.zero_le _, rfl, Lib.hid (Below.refl _ _), Lib.hid fun j hj => by omega⟩
    case round =>
      obtain ⟨k, hk, rfl, HW, HD⟩ := hrel
      have e0 : (0 : Int) ≤ (k : Int) := Int.natCast_nonneg _
      by_cases hlt : k < n
      · have HR1 := Lib.hid (HA.out.below HW.out)
        have HR2 := Lib.hid (HB.out.below HW.out)
        obtain ⟨b1, o1, rfl, hb1, hc1⟩ := HR1.out.out (by omega)
        obtain ⟨b2, o2, rfl, hb2, hc2⟩ := HR2.out.out (by omega)
        obtain ⟨x0, x1⟩ := hc1 k hlt
        obtain ⟨y0, y1⟩ := hc2 k hlt
        have e1 : (k : Int) < (n : Int) := by omega
        have PNk := Lib.hid (PN.out k hlt)
        have HDk := Lib.hid (fun h => step_all (p := fun j => E j) HD.out (k := k) h)
        have B2 := Lib.hid (below2 wr (.cells #[.string (N k), .slice (As1 k) (ms k) (cs1 k)] 62) (.cells #[.string (N' k), .slice (As2 k) (ms' k) (cs2 k)] 62))
        have C := Lib.hid (CF.out k hlt _ (((HR1.out.inn k hlt).below B2.out (Nat.le_refl _)).more B2.out.size) (((HR2.out.inn k hlt).below B2.out (Nat.le_refl _)).more B2.out.size))
        unfold pcV at C
        generalize E k = rr at C PNk HDk
        generalize N k = s1, As1 k = z1, ms k = m1, cs1 k = u1 at x0 x1 B2 C
        generalize N' k = s2, As2 k = z2, ms' k = m2, cs2 k = u2 at y0 y1 B2 C
        clear hc1 hc2 hk HD PN HR1 HR2
        go_wp2_with fail
        refine C.out.mono ?_
        rintro e w1 ⟨rfl, b1⟩
        have HQ := Lib.hid (below_then HW.out (below_then B2.out b1))
        clear b1 x0 x1 y0 y1 C B2
        cases rr
        · have HE := Lib.hid (PNk.out rfl)
          go_wp2_with fail
          go_ret
          exact ⟨Ft.ret_bool HE.out.symm, HQ.out⟩
        · have HDD := Lib.hid (HDk.out rfl)
          go_wp2_with fail
          go_roundw
          case rel => exact ⟨k + 1, by omega, by go_num, HQ, HDD⟩
          case measure => simp [intOf]; omega
      · have HE := Lib.hid (PYy.out fun j hj => HD.out j (by omega))
        have e1 : ¬ (k : Int) < (n : Int) := by omega
        clear hk HD
        go_wp2_with fail
        go_ret
        exact ⟨Ft.ret_bool HE.out.symm, HW.out⟩
  · have HE := Lib.hid (PL.out hnm)
    have g1 : ((n : Int) != (m : Int)) = true := by simp; omega
    have g2 : ((n : Int) == (m : Int)) = false := by simp; omega
    clear PY PN PL CE
    go_enter Try.func50, Try.ntmps50
    go_wp2_with fail
    go_ret
    exact ⟨Ft.ret_bool HE.out.symm, Below.refl _ _⟩
/-- Two patterns are equal. -/
noncomputable def spB (n : Nat) (N : Nat → ByteArray) (ms : Nat → Nat) (ds : Nat → Nat → Int) (k : Nat) (S : Nat → Int) (o : Int) (n' : Nat) (N' : Nat → ByteArray) (ms' : Nat → Nat) (ds' : Nat → Nat → Int) (k' : Nat) (S' : Nat → Int) (o' : Int) : Bool := tv (PsP n N ms ds n' N' ms' ds') && (tv (SeP k S k' S') && (o == o'))
set_option maxRecDepth 100000 in
set_option maxHeartbeats 2000000 in
theorem impl_sp (A : Option Addr) (n c : Nat) (N : Nat → ByteArray) (ms : Nat → Nat) (ds : Nat → Nat → Int) (Y : Option Addr) (k sc : Nat) (S : Nat → Int) (o : Int) (A' : Option Addr) (n' c' : Nat) (N' : Nat → ByteArray) (ms' : Nat → Nat) (ds' : Nat → Nat → Int) (Y' : Option Addr) (k' sc' : Nat) (S' : Nat → Int) (o' : Int) (hz : Small n N ms k) (hz' : Small n' N' ms' k') (w : World) (hA : PatR w A n N ms ds Y k S) (hB : PatR w A' n' N' ms' ds' Y' k' S') :
    Calls Try.prog 16 #[paV A n c Y k sc o, paV A' n' c' Y' k' sc' o'] w fun e w' => e = .returned (.bool (spB n N ms ds k S o n' N' ms' ds' k' S' o')) ∧ Below w.heap.size w w' := by
  have BB := Lib.hid (below2 w (.cells #[.slice A n c, .slice Y k sc, .int .i64 o] 31) (.cells #[.slice A' n' c', .slice Y' k' sc', .int .i64 o'] 31))
  obtain ⟨ka, kb⟩ := two w (.cells #[.slice A n c, .slice Y k sc, .int .i64 o] 31) (.cells #[.slice A' n' c', .slice Y' k' sc', .int .i64 o'] 31)
  have KA := Lib.hid ka
  have KB := Lib.hid kb
  have C1 := Lib.hid (lib_pieces A n c N ms ds A' n' c' N' ms' ds' hz.at.1 hz'.at.1 (fun i hi => (hz.at.2.2 i hi).2) (fun i hi => (hz'.at.2.2 i hi).2) _ (hA.below BB.out).pcs (hB.below BB.out).pcs)
  have C2 : Hid (∀ w', Below w.heap.size w w' → Calls Try.prog 52 #[.slice Y k sc, .slice Y' k' sc'] w' fun e w2 => e = .returned (.bool (tv (SeP k S k' S'))) ∧ Below w'.heap.size w' w2) := Lib.hid fun w' hb => lib_seams Y k sc S Y' k' sc' S' hz.at.2.1 hz'.at.2.1 w' (hA.below hb).seams (hB.below hb).seams
  clear hA hB hz hz' ka kb
  unfold paV spB
  generalize tv (PsP n N ms ds n' N' ms' ds') = r1 at C1 ⊢
  generalize tv (SeP k S k' S') = r2 at C2 ⊢
  cases r1
  · go_enter Try.func16, Try.ntmps16
    go_wp2_with fail
    refine C1.out.mono ?_
    rintro e w1 ⟨rfl, b1⟩
    have B1 := Lib.hid (below_then BB.out b1)
    clear b1
    go_wp2_with fail
    go_ret
    exact ⟨rfl, B1.out⟩
  · go_enter Try.func16, Try.ntmps16
    go_wp2_with fail
    refine C1.out.mono ?_
    rintro e w1 ⟨rfl, b1⟩
    have B1 := Lib.hid (below_then BB.out b1)
    have KA1 := Lib.hid (blk_keep b1 KA.out)
    have KB1 := Lib.hid (blk_keep b1 KB.out)
    have C3 := Lib.hid (C2.out _ B1.out)
    clear b1 C1 C2 KA KB BB
    obtain ⟨x0, x1, x2⟩ := blk3 KA1.out
    obtain ⟨y0, y1, y2⟩ := blk3 KB1.out
    go_wp2_with fail
    refine C3.out.mono ?_
    rintro e w2 ⟨rfl, b2⟩
    have B2 := Lib.hid (below_then B1.out b2)
    have KA2 := Lib.hid (blk_keep b2 KA1.out)
    have KB2 := Lib.hid (blk_keep b2 KB1.out)
    clear b2 x0 x1 x2 y0 y1 y2 KA1 KB1 C3
    obtain ⟨x0, x1, x2⟩ := blk3 KA2.out
    obtain ⟨y0, y1, y2⟩ := blk3 KB2.out
    cases r2
    · go_wp2_with fail
      go_ret
      exact ⟨rfl, B2.out⟩
    · generalize hoo : (o == o') = ro
      go_wp2_with fail
      go_ret
      exact ⟨Ft.ret_bool (by simp [hoo]), B2.out⟩
set_option maxRecDepth 100000 in
set_option maxHeartbeats 4000000 in
theorem spec_sp (A : Option Addr) (n c : Nat) (N : Nat → ByteArray) (ms : Nat → Nat) (ds : Nat → Nat → Int) (Y : Option Addr) (k sc : Nat) (S : Nat → Int) (o : Int) (A' : Option Addr) (n' c' : Nat) (N' : Nat → ByteArray) (ms' : Nat → Nat) (ds' : Nat → Nat → Int) (Y' : Option Addr) (k' sc' : Nat) (S' : Nat → Int) (o' : Int) (hz : Small n N ms k) (hz' : Small n' N' ms' k') (w : World) (hA : PatR w A n N ms ds Y k S) (hB : PatR w A' n' N' ms' ds' Y' k' S') :
    Calls Try.prog 14 #[paV A n c Y k sc o, paV A' n' c' Y' k' sc' o'] w fun e w' => e = .returned (.bool (spB n N ms ds k S o n' N' ms' ds' k' S' o')) ∧ Below w.heap.size w w' := by
  have BB := Lib.hid (below2 w (.cells #[.slice A n c, .slice Y k sc, .int .i64 o] 31) (.cells #[.slice A' n' c', .slice Y' k' sc', .int .i64 o'] 31))
  obtain ⟨ka, kb⟩ := two w (.cells #[.slice A n c, .slice Y k sc, .int .i64 o] 31) (.cells #[.slice A' n' c', .slice Y' k' sc', .int .i64 o'] 31)
  have KA := Lib.hid ka
  have KB := Lib.hid kb
  obtain ⟨hn, hk, hmm⟩ := hz.at
  obtain ⟨hn', hk', hmm'⟩ := hz'.at
  obtain ⟨⟨As1, cs1, k1⟩, s1⟩ := hA
  obtain ⟨⟨As2, cs2, k2⟩, s2⟩ := hB
  have HA := Lib.hid k1
  have HB := Lib.hid k2
  have HS := Lib.hid s1
  have HS' := Lib.hid s2
  have PN1 : Hid (n ≠ n' → spB n N ms ds k S o n' N' ms' ds' k' S' o' = false) := Lib.hid fun h => by unfold spB; rw [tv_no fun q => h q.1]; rfl
  have PN2 : Hid (k ≠ k' → spB n N ms ds k S o n' N' ms' ds' k' S' o' = false) := Lib.hid fun h => by unfold spB; rw [tv_no (P := SeP k S k' S') fun q => h q.1]; simp
  have PN3 : Hid (o ≠ o' → spB n N ms ds k S o n' N' ms' ds' k' S' o' = false) := Lib.hid fun h => by unfold spB; rw [show (o == o') = false by simpa using h]; simp
  have PNn : Hid (∀ i, i < n → ¬ (N i).toList = (N' i).toList → spB n N ms ds k S o n' N' ms' ds' k' S' o' = false) := Lib.hid fun i hi h => by
    unfold spB; rw [tv_no fun q => h (by have := tv_iff.1 (q.2 i hi); rw [this.1])]; rfl
  have PNe : Hid (∀ i, i < n → tv (IeP (ms i) (ds i) (ms' i) (ds' i)) = false → spB n N ms ds k S o n' N' ms' ds' k' S' o' = false) := Lib.hid fun i hi h => by
    unfold spB; rw [tv_no fun q => (by have := tv_iff.1 (q.2 i hi); rw [tv_yes this.2] at h; cases h)]; rfl
  have PNs : Hid (∀ i, i < k → seq S S' i = false → spB n N ms ds k S o n' N' ms' ds' k' S' o' = false) := Lib.hid fun i hi h => by
    unfold spB; rw [tv_no (P := SeP k S k' S') fun q => (by rw [q.2 i hi] at h; cases h)]; simp
  have PY : Hid (n = n' → k = k' → o = o' → (∀ i, i < n → (N i).toList = (N' i).toList ∧ tv (IeP (ms i) (ds i) (ms' i) (ds' i)) = true) → (∀ i, i < k → seq S S' i = true) → spB n N ms ds k S o n' N' ms' ds' k' S' o' = true) := Lib.hid fun h1 h2 h3 h4 h5 => by
    unfold spB
    rw [tv_yes ⟨h1, fun i hi => tv_yes ⟨ba_eq (h4 i hi).1, tv_iff.1 (h4 i hi).2⟩⟩, tv_yes (P := SeP k S k' S') ⟨h2, h5⟩]
    simp [h3]
  have CE : Hid (n = n' → ∀ i, i < n → ∀ w, Nums w w.heap.size (As1 i) (ms i) (ds i) → Nums w w.heap.size (As2 i) (ms' i) (ds' i) → Calls Try.prog 47 #[.slice (As1 i) (ms i) (cs1 i), .slice (As2 i) (ms' i) (cs2 i)] w fun e w' => e = .returned (.bool (tv (IeP (ms i) (ds i) (ms' i) (ds' i)))) ∧ Below w.heap.size w w') := Lib.hid fun e i hi w h1 h2 => spec_ints _ _ _ _ _ _ _ _ (hmm i hi).2 (hmm' i (by omega)).2 w h1 h2
  have hgd := guard_seam
  clear hz hz' ka kb hmm hmm' k1 k2 s1 s2
  unfold paV
  generalize spB n N ms ds k S o n' N' ms' ds' k' S' o' = r at PN1 PN2 PN3 PNn PNe PNs PY ⊢
  obtain ⟨E, hE⟩ : ∃ E : Nat → Bool, ∀ i, tv (IeP (ms i) (ds i) (ms' i) (ds' i)) = E i := ⟨_, fun i => rfl⟩
  simp only [hE] at PNe PY CE
  clear hE
  by_cases hnn : n = n'
  case neg =>
    have HE := Lib.hid (PN1.out hnn)
    have g1 : ((n : Int) != (n' : Int)) = true := by simp; omega
    have g2 : ((n : Int) == (n' : Int)) = false := by simp; omega
    clear PN1 PN2 PN3 PNn PNe PNs PY CE
    go_enter Try.func14, Try.ntmps14
    go_wp2_with fail
    go_ret
    exact ⟨Ft.ret_bool HE.out.symm, BB.out⟩
  subst hnn
  by_cases hkk : k = k'
  case neg =>
    have HE := Lib.hid (PN2.out hkk)
    have g1 : ((k : Int) != (k' : Int)) = true := by simp; omega
    have g2 : ((k : Int) == (k' : Int)) = false := by simp; omega
    clear PN1 PN2 PN3 PNn PNe PNs PY CE
    go_enter Try.func14, Try.ntmps14
    go_wp2_with fail
    go_ret
    exact ⟨Ft.ret_bool HE.out.symm, BB.out⟩
  subst hkk
  by_cases hoo : o = o'
  case neg =>
    have HE := Lib.hid (PN3.out hoo)
    have g1 : (o != o') = true := by simpa using hoo
    have g2 : (o == o') = false := by simpa using hoo
    clear PN1 PN2 PN3 PNn PNe PNs PY CE
    go_enter Try.func14, Try.ntmps14
    go_wp2_with fail
    go_ret
    exact ⟨Ft.ret_bool HE.out.symm, BB.out⟩
  subst hoo
  have PYy := Lib.hid (PY.out rfl rfl rfl)
  have CEe := Lib.hid (CE.out rfl)
  clear PN1 PN2 PN3 PY CE
  go_enter Try.func14, Try.ntmps14
  go_upto_region 1 with fail
  generalize hw0 : (w.alloc _).alloc _ = w0 at KA KB BB ⊢
  clear hw0
  obtain ⟨x0, x1, x2⟩ := blk3 KA.out
  obtain ⟨y0, y1, y2⟩ := blk3 KB.out
  have HA0 := Lib.hid (HA.out.below BB.out)
  have HB0 := Lib.hid (HB.out.below BB.out)
  have HS0 := Lib.hid ((HS.out.below BB.out (Nat.le_refl _)).more BB.out.size)
  have HS1 := Lib.hid ((HS'.out.below BB.out (Nat.le_refl _)).more BB.out.size)
  have lz := lt_of_heap KB.out
  clear HA HB HS HS'
  go_wp2_with fail
  clear x0 x1 x2 y0 y1 y2
  go_loopw [5] (fun i wr => ∃ j : Nat, j ≤ n ∧ i = .int .i64 (j : Int) ∧ Hid (Below w0.heap.size w0 wr) ∧ Hid (∀ q, q < j → (N q).toList = (N' q).toList ∧ E q = true)) (fun i _ => n - (intOf i).toNat)
  case atStart => exact ⟨0, Nat.zero_le _, rfl, Lib.hid (Below.refl _ _), Lib.hid fun j hj => by omega⟩
  case round =>
    obtain ⟨j, hj, rfl, HW, HD⟩ := hrel
    have e0 : (0 : Int) ≤ (j : Int) := Int.natCast_nonneg _
    have KAr := Lib.hid (blk_keep HW.out KA.out)
    have KBr := Lib.hid (blk_keep HW.out KB.out)
    obtain ⟨x0, x1, x2⟩ := blk3 KAr.out
    obtain ⟨y0, y1, y2⟩ := blk3 KBr.out
    by_cases hlt : j < n
    · have HR1 := Lib.hid (HA0.out.below HW.out)
      have HR2 := Lib.hid (HB0.out.below HW.out)
      obtain ⟨b1, o1, rfl, hb1, hc1⟩ := HR1.out.out (by omega)
      obtain ⟨b2, o2, rfl, hb2, hc2⟩ := HR2.out.out (by omega)
      obtain ⟨u0, u1⟩ := hc1 j hlt
      obtain ⟨v0, v1⟩ := hc2 j hlt
      have e1 : (j : Int) < (n : Int) := by omega
      have PNnk := Lib.hid (PNn.out j hlt)
      have PNek := Lib.hid (PNe.out j hlt)
      have C := Lib.hid (fun z : Beyond wr => CEe.out j hlt z.to (((HR1.out.inn j hlt).below z.h (Nat.le_refl _)).more z.h.size) (((HR2.out.inn j hlt).below z.h (Nat.le_refl _)).more z.h.size))
      have HDk : Hid (((N j).toList = (N' j).toList) → E j = true → ∀ q, q < j + 1 → (N q).toList = (N' q).toList ∧ E q = true) := Lib.hid fun h h' q hq => by
        by_cases e : q = j
        · rw [e]; exact ⟨h, h'⟩
        · exact HD.out q (by omega)
      generalize E j = rr at C PNek HDk
      generalize N j = t1 at u0 PNnk HDk
      generalize N' j = t2 at v0 PNnk HDk
      generalize As1 j = z1, ms j = m1, cs1 j = q1 at u1 C
      generalize As2 j = z2, ms' j = m2, cs2 j = q2 at v1 C
      clear hc1 hc2 HD HR1 HR2 KAr KBr hj
      go_upto_region 6 with fail
      have x0 := bey_cell x0
      have y0 := bey_cell y0
      have u0 := bey_cell u0
      have u1 := bey_cell u1
      have v0 := bey_cell v0
      have v1 := bey_cell v1
      by_cases hs : t1.toList = t2.toList
      · have s1 : (t1.toList == t2.toList) = true := by simpa using hs
        have s2 : (t1.toList != t2.toList) = false := by simpa using hs
        have HDD := Lib.hid (HDk.out hs)
        clear HDk PNnk hs
        refine wp_region_below (by kernel_rfl) (by kernel_rfl) ?_
        repeat (go_big_quiet_step (first | (go_at_call 47; with_reducible exact bey_of _ (C.out _))))
        refine wpQuiet_nil ?_
        rintro _ ⟨pq, rfl⟩
        have HQ := Lib.hid (below_then HW.out pq.h)
        generalize pq.to = wq at HQ ⊢
        clear x0 y0 u0 u1 v0 v1 x1 x2 y1 y2 C
        cases rr
        · have HE := Lib.hid (PNek.out rfl)
          go_wp2_with fail
          go_ret
          exact ⟨Ft.ret_bool HE.out.symm, (below_then BB.out HQ.out)⟩
        · have HDD2 := Lib.hid (HDD.out rfl)
          clear HDD
          go_wp2_with fail
          go_roundw
          case rel => exact ⟨j + 1, by omega, by go_num, HQ, HDD2⟩
          case measure => simp [intOf]; omega
      · have s1 : (t1.toList == t2.toList) = false := by simpa using hs
        have s2 : (t1.toList != t2.toList) = true := by simpa using hs
        have HE := Lib.hid (PNnk.out hs)
        clear HDk PNnk hs
        refine wp_region_below (by kernel_rfl) (by kernel_rfl) ?_
        repeat (go_big_quiet_step (fail))
        refine wpQuiet_nil ?_
        rintro _ ⟨pq, rfl⟩
        have HQ := Lib.hid (below_then HW.out pq.h)
        generalize pq.to = wq at HQ ⊢
        clear x0 y0 u0 u1 v0 v1 x1 x2 y1 y2 C
        go_wp2_with fail
        go_ret
        exact ⟨Ft.ret_bool HE.out.symm, (below_then BB.out HQ.out)⟩
    · have PZ := Lib.hid (PYy.out fun q hq => HD.out q (by omega))
      have e1 : ¬ (j : Int) < (n : Int) := by omega
      have HWw := HW
      clear hj HD KAr KBr PYy PNn PNe CEe HA0 HB0
      go_wp2_with fail
      clear x0 x1 x2 y0 y1 y2
      go_loopw [6] (fun i wr => ∃ j : Nat, j ≤ k ∧ i = .int .i64 (j : Int) ∧ Hid (Below w0.heap.size w0 wr) ∧ Hid (∀ q, q < j → seq S S' q = true)) (fun i _ => k - (intOf i).toNat)
      case atStart => exact ⟨0, Nat.zero_le _, rfl, HW, Lib.hid fun j hj => by omega⟩
      case round =>
        obtain ⟨j, hj, rfl, HW, HD⟩ := hrel
        have e0 : (0 : Int) ≤ (j : Int) := Int.natCast_nonneg _
        have KAr := Lib.hid (blk_keep HW.out KA.out)
        have KBr := Lib.hid (blk_keep HW.out KB.out)
        obtain ⟨x0, x1, x2⟩ := blk3 KAr.out
        obtain ⟨y0, y1, y2⟩ := blk3 KBr.out
        by_cases hlt : j < k
        · obtain ⟨b1, o1, rfl, hb1, hc1⟩ := (HS0.out.below HW.out (Nat.le_refl _)) (by omega)
          obtain ⟨b2, o2, rfl, hb2, hc2⟩ := (HS1.out.below HW.out (Nat.le_refl _)) (by omega)
          obtain ⟨u0, u1, u2, u3⟩ := four_cells hc1 hlt
          obtain ⟨v0, v1, v2, v3⟩ := four_cells hc2 hlt
          have hq := fun w => neq_seam (S (j * 4)) (S (j * 4 + 1)) (S (j * 4 + 2)) (S (j * 4 + 3)) (S' (j * 4)) (S' (j * 4 + 1)) (S' (j * 4 + 2)) (S' (j * 4 + 3)) w
          unfold seV at hq
          have hqr : ∀ b : Bool, seq S S' j = b → (S (j * 4) == S' (j * 4) && (S (j * 4 + 1) == S' (j * 4 + 1) && (S (j * 4 + 2) == S' (j * 4 + 2) && S (j * 4 + 3) == S' (j * 4 + 3)))) = b := fun b h => h
          simp only [hqr _ rfl] at hq
          have e1 : (j : Int) < (k : Int) := by omega
          have PNk := Lib.hid (PNs.out j hlt)
          have HDk := Lib.hid (fun h => step_all (p := fun j => seq S S' j) HD.out (k := j) h)
          generalize seq S S' j = rr at hq PNk HDk
          generalize S (j * 4) = px0, S (j * 4 + 1) = px1, S (j * 4 + 2) = px2, S (j * 4 + 3) = px3 at u0 u1 u2 u3 hq
          generalize S' (j * 4) = py0, S' (j * 4 + 1) = py1, S' (j * 4 + 2) = py2, S' (j * 4 + 3) = py3 at v0 v1 v2 v3 hq
          clear hc1 hc2 hj HD hqr KAr KBr
          have x1 := bey_cell x1
          have y1 := bey_cell y1
          have u0 := bey_cell u0
          have u1 := bey_cell u1
          have u2 := bey_cell u2
          have u3 := bey_cell u3
          have v0 := bey_cell v0
          have v1 := bey_cell v1
          have v2 := bey_cell v2
          have v3 := bey_cell v3
          have z1 := x1 ⟨wr, Below.refl _ _⟩
          have z2 := y1 ⟨wr, Below.refl _ _⟩
          go_wp2_with fail
          refine wp_region_below (by kernel_rfl) (by kernel_rfl) ?_
          repeat (go_big_quiet_step (fail))
          refine wpQuiet_nil ?_
          rintro _ ⟨pq, rfl⟩
          have HQ := Lib.hid (below_then HW.out pq.h)
          generalize pq.to = wq at HQ ⊢
          clear x0 x1 x2 y0 y1 y2 u0 u1 u2 u3 v0 v1 v2 v3 hq z1 z2
          cases rr
          · have HE := Lib.hid (PNk.out rfl)
            go_wp2_with fail
            go_ret
            exact ⟨Ft.ret_bool HE.out.symm, (below_then BB.out HQ.out)⟩
          · have HDD := Lib.hid (HDk.out rfl)
            go_wp2_with fail
            go_roundw
            case rel => exact ⟨j + 1, by omega, by go_num, HQ, HDD⟩
            case measure => simp [intOf]; omega
        · have HE := Lib.hid (PZ.out fun q hq => HD.out q (by omega))
          have e1 : ¬ (j : Int) < (k : Int) := by omega
          clear hj HD KAr KBr
          go_wp2_with fail
          go_ret
          exact ⟨Ft.ret_bool HE.out.symm, (below_then BB.out HW.out)⟩
end Go.Proofs.Ytnojnikophpnoaa.Pu
