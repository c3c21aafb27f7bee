/- Whether a list is an outline: the program's tests over the sides. -/
import Derived.Test.YtggbdpamjjgakaaDoorOjLib
namespace Go.Proofs.YtggbdpamjjgakaaDoor.Ok
set_option linter.unusedVariables false
open Go.RowKit Ft Is Ge Qb Ol Ot Opl Oq Oi Oj

theorem four_at {w : World} {b off n : Nat} {f : Nat → Int} (hc : ∀ i, i < n * 4 → w.cell? ⟨b, off + i, none⟩ = some (.int .i64 (sd n f i))) {k : Nat} (hk : k < n) :
    w.cell? ⟨b, off + k * 4, none⟩ = some (.int .i64 (f (k * 2))) ∧ w.cell? ⟨b, off + k * 4 + 1, none⟩ = some (.int .i64 (f (k * 2 + 1))) ∧ w.cell? ⟨b, off + k * 4 + 2, none⟩ = some (.int .i64 (f (nx n k * 2))) ∧ w.cell? ⟨b, off + k * 4 + 3, none⟩ = some (.int .i64 (f (nx n k * 2 + 1))) := by
  obtain ⟨e0, e1, e2, e3⟩ := sd_at n f k
  exact ⟨by rw [hc _ (by omega), e0], by have := hc (k * 4 + 1) (by omega); rw [e1] at this; exact this, by have := hc (k * 4 + 2) (by omega); rw [e2] at this; exact this, by have := hc (k * 4 + 3) (by omega); rw [e3] at this; exact this⟩
theorem nx_nx (n k : Nat) : nx n (nx n k) = nx2 n k := by unfold nx nx2; rw [Nat.mod_add_mod]
def BendP (n : Nat) (f : Nat → Int) : Prop := ∀ i, i < n → bendB n f i = true
set_option maxRecDepth 100000 in
set_option maxHeartbeats 4000000 in
theorem ibends (A : Option Addr) (n c : Nat) (f : Nat → Int) (h1 : 1 ≤ n) (h24 : n ≤ 24) (hR : Rng n f) (w : World) (hA : Nums w w.heap.size A (n * 4) (sd n f)) :
    Calls Tryd.prog 21 #[.slice A n c] w fun e w' => e = .returned (.bool (tv (BendP n f))) ∧ Below w.heap.size w w' := by
  have HA := Lib.hid hA
  have HR := Lib.hid hR
  have PY : Hid ((∀ j, j < n → bendB n f j = true) → tv (BendP n f) = true) := Lib.hid fun h => tv_yes h
  have PN : Hid (∀ j, j < n → bendB n f j = false → tv (BendP n f) = false) := Lib.hid fun j hj hn => tv_no fun h => by rw [h j hj] at hn; cases hn
  clear hA hR
  generalize tv (BendP n f) = r at PY PN ⊢
  go_enter Tryd.func21, Tryd.ntmps21
  go_wp2_with fail
  go_loopw [3, 4, 7] (fun _ _ i wr => ∃ k : Nat, k ≤ n ∧ i = .int .i64 (k : Int) ∧ Hid (Below w.heap.size w wr) ∧ Hid (∀ j, j < k → bendB n f j = true)) (fun _ _ i _ => n - (intOf i).toNat)
  case atStart => exact ⟨0, Nat.zero_le _, rfl, Lib.hid (Below.refl _ _), Lib.hid fun j hj => by omega⟩
  case round =>
    obtain ⟨k, hk, rfl, HB, HD⟩ := hrel
    by_cases hlt : k < n
    · obtain ⟨b, off, rfl, hb, hc⟩ := HA.out (by omega)
      have hc' : ∀ i, i < n * 4 → wr.cell? ⟨b, off + i, none⟩ = some (.int .i64 (sd n f i)) := fun i hi => (HB.out.cell (p := ⟨b, off + i, none⟩) hb).trans (hc i hi)
      have hsz := HB.out.size
      have hm1 := nx_lt (n := n) (i := k) (by omega)
      have hm2 := nx2_lt (n := n) (i := k) (by omega)
      obtain ⟨a0, a1, a2, a3⟩ := four_at hc' hlt
      obtain ⟨_, _, c2, c3⟩ := four_at hc' hm1
      rw [nx_nx] at c2 c3
      have CR := Lib.hid fun w => iturn (f (k * 2), f (k * 2 + 1)) (f (nx n k * 2), f (nx n k * 2 + 1)) (f (nx2 n k * 2), f (nx2 n k * 2 + 1)) (rng_pt HR.out hlt) (rng_pt HR.out hm1) (rng_pt HR.out hm2) w
      have i1 := nx_int n k
      have e0 : (0 : Int) ≤ (k : Int) := Int.natCast_nonneg _
      have e1 : (k : Int) < (n : Int) := by omega
      have e2 : (n : Int) ≤ 24 := by omega
      have e3 : ((n : Int) == 0) = false := by simp; omega
      have e4 : (0 : Int) ≤ (k : Int) + 1 := by omega
      have f1 : ¬ ((n : Int) = 0) := by omega
      have f2 : ¬ (n = 0) := by omega
      have e5 : (0 : Int) ≤ (n : Int) := by omega
      have e6 : (0 : Int) ≤ ((nx n k : Nat) : Int) := by omega
      have e7 : ((nx n k : Nat) : Int) < (n : Int) := by omega
      have e8 := wr_in (x := (k : Int) + 1) (by omega)
      have e9 : Int.tmod ((k : Int) + 1) (n : Int) = ((nx n k : Nat) : Int) := by rw [Int.tmod_eq_emod_of_nonneg e4]; exact i1
      have e10 : IntKind.i64.wrap (Int.tmod ((k : Int) + 1) (n : Int)) = ((nx n k : Nat) : Int) := by rw [e9]; exact wr_in (by omega)
      have hbr : b < wr.heap.size := by omega
      have PNk := Lib.hid (PN.out k hlt)
      have HDk : Hid (bendB n f k = true → ∀ j, j < k + 1 → bendB n f j = true) := Lib.hid fun h j hj => by
        by_cases e : j = k
        · rw [e]; exact h
        · exact HD.out j (by omega)
      have HBB := Lib.hid (bend_nx n f k)
      generalize hcv : cr (f (k * 2), f (k * 2 + 1)) (f (nx n k * 2), f (nx n k * 2 + 1)) (f (nx2 n k * 2), f (nx2 n k * 2 + 1)) = cv at CR HBB
      clear hcv
      generalize f (k * 2) = px at a0 CR
      generalize f (k * 2 + 1) = py at a1 CR
      generalize f (nx n k * 2) = qx at a2 CR
      generalize f (nx n k * 2 + 1) = qy at a3 CR
      generalize f (nx2 n k * 2) = tx at c2 CR
      generalize f (nx2 n k * 2 + 1) = ty at c3 CR
      simp only [sdV, spV] at CR
      generalize bendB n f k = bb at PNk HDk HBB
      have c2' : (wr.alloc (.cells #[.int .i64 px, .int .i64 py, .int .i64 qx, .int .i64 qy] 58)).cell? ⟨b, off + nx n k * 4 + 2, none⟩ = some (.int .i64 tx) := Lib.cell?_alloc_some _ c2
      have c3' : (wr.alloc (.cells #[.int .i64 px, .int .i64 py, .int .i64 qx, .int .i64 qy] 58)).cell? ⟨b, off + nx n k * 4 + 3, none⟩ = some (.int .i64 ty) := Lib.cell?_alloc_some _ c3
      have k4 := Lib.hid (heap_alloc_new wr (.cells #[.int .i64 px, .int .i64 py, .int .i64 qx, .int .i64 qy] 58))
      have HB4 := Lib.hid (below_then HB.out (below_box wr (.cells #[.int .i64 px, .int .i64 py, .int .i64 qx, .int .i64 qy] 58)))
      clear hc hc' hk HD PN
      go_upto_region 4 with fail
      generalize hs5 : wr.heap.size = s5 at k4 hbr ⊢
      generalize hw4 : wr.alloc _ = w4 at k4 HB4 c2' c3' ⊢
      clear hw4 hs5 a0 a1 a2 a3 c2 c3
      obtain ⟨a0, a1, a2, a3⟩ := blk4 k4.out
      have a0 := bey_cell a0
      have a1 := bey_cell a1
      have a2 := bey_cell a2
      have a3 := bey_cell a3
      have c2' := bey_cell c2'
      have c3' := bey_cell c3'
      refine wp_region_below (by kernel_rfl) (by kernel_rfl) ?_
      repeat (go_big_quiet_step (first | (go_at_call 30; (with_reducible exact bey_of _ (CR.out _)))))
      refine wpQuiet_nil ?_
      rintro _ ⟨pq, rfl⟩
      have HQ := Lib.hid (below_then HB4.out pq.h)
      generalize pq.to = wq at HQ ⊢
      clear a0 a1 a2 a3 c2' c3'
      by_cases hz : cv = 0
      · have hz' : (cv == 0) = true := by simpa using hz
        have HE := Lib.hid (PNk.out (by rw [HBB.out]; simpa using hz))
        clear hz HDk HBB
        go_wp2_with fail
        go_ret
        exact ⟨Ft.ret_bool HE.out.symm, HQ.out⟩
      · have hz' : (cv == 0) = false := by simpa using hz
        have HDD := Lib.hid (HDk.out (by rw [HBB.out]; simpa using hz))
        clear hz HDk HBB PNk
        go_wp2_with fail
        go_roundw
        case rel => exact ⟨k + 1, by omega, by go_num, HQ, HDD⟩
        case measure => simp [intOf]; omega
    · have HE := Lib.hid (PY.out fun j hj => HD.out j (by omega))
      have e3 : ¬ (k : Int) < (n : Int) := by omega
      go_wp2_with fail
      go_ret
      exact ⟨Ft.ret_bool HE.out.symm, HB.out⟩
/-- Rows of sides, read. -/
def Sides (w : World) (A : Option Addr) (m : Nat) (P Q : Nat → Pt) : Prop := 0 < m → ∃ b off, A = some ⟨b, off, none⟩ ∧ b < w.heap.size ∧ ∀ j, j < m →
  w.cell? ⟨b, off + j * 4, none⟩ = some (.int .i64 (P j).1) ∧ w.cell? ⟨b, off + j * 4 + 1, none⟩ = some (.int .i64 (P j).2) ∧ w.cell? ⟨b, off + j * 4 + 2, none⟩ = some (.int .i64 (Q j).1) ∧ w.cell? ⟨b, off + j * 4 + 3, none⟩ = some (.int .i64 (Q j).2)
/-- The first place where something holds, or -1. -/
def fst (p : Nat → Bool) (m : Nat) : Int := match (List.range m).find? p with | some j => j | none => -1
theorem fst_hit {p : Nat → Bool} {m j : Nat} (hj : j < m) (h : p j = true) (hb : ∀ i, i < j → p i = false) : fst p m = j := by
  unfold fst
  have : (List.range m).find? p = some j := by
    rw [List.find?_range_eq_some]
    exact ⟨h, List.mem_range.2 hj, fun i hi => by simp [hb i hi]⟩
  rw [this]
theorem fst_miss {p : Nat → Bool} {m : Nat} (hb : ∀ i, i < m → p i = false) : fst p m = -1 := by
  unfold fst
  have : (List.range m).find? p = none := by
    rw [List.find?_range_eq_none]
    exact fun i hi => by simp [hb i hi]
  rw [this]
theorem fst_nonneg (p : Nat → Bool) (m : Nat) : (0 ≤ fst p m) ↔ ∃ j, j < m ∧ p j = true := by
  by_cases h : ∃ j, j < m ∧ p j = true
  · refine ⟨fun _ => h, fun _ => ?_⟩
    unfold fst
    cases hf : (List.range m).find? p with
    | some j => simp
    | none =>
      obtain ⟨j, hj, hp⟩ := h
      rw [List.find?_range_eq_none] at hf
      have := hf j hj
      rw [hp] at this
      simp at this
  · refine ⟨fun h0 => ?_, fun h' => absurd h' h⟩
    rw [fst_miss fun i hi => by cases hp : p i with | false => rfl | true => exact absurd ⟨i, hi, hp⟩ h] at h0
    omega
set_option maxRecDepth 100000 in
set_option maxHeartbeats 4000000 in
theorem iindex (g : FuncId) (lb : Array Value) (a b : Pt) (A : Option Addr) (m cp : Nat) (P Q : Nat → Pt) (p : Nat → Bool) (hm : m ≤ 24) (w : World) (hA : Sides w A m P Q)
    (hp : ∀ (j : Nat), j < m → ∀ w', Calls Tryd.prog 32 #[sdV a b, sdV (P j) (Q j)] w' fun e w2 => e = .returned (.bool (p j)) ∧ Below w'.heap.size w' w2) :
    Calls Tryd.prog 41 #[.slice A m cp, .func (.func 32) #[sdV a b] #[]] w fun e w' => e = .returned (.int .i64 (fst p m)) ∧ Below w.heap.size w w' := by
  have HA := Lib.hid hA
  have HP := Lib.hid hp
  have PY : Hid (∀ j, j < m → p j = true → (∀ i, i < j → p i = false) → fst p m = j) := Lib.hid fun j h1 h2 h3 => fst_hit h1 h2 h3
  have PN : Hid ((∀ i, i < m → p i = false) → fst p m = -1) := Lib.hid fun h => fst_miss h
  clear hA hp
  generalize fst p m = r at PY PN ⊢
  obtain ⟨a0, a1⟩ := a
  obtain ⟨b0, b1⟩ := b
  simp only [sdV] at HP ⊢
  go_enter Tryd.func41, Tryd.ntmps41
  go_wp2_with fail
  go_loopw [5, 8] (fun _ i wr => ∃ k : Nat, k ≤ m ∧ i = .int .i64 (k : Int) ∧ Hid (Below w.heap.size w wr) ∧ Hid (∀ j, j < k → p j = false)) (fun _ i _ => m - (intOf i).toNat)
  case atStart => exact ⟨0, Nat.zero_le _, rfl, Lib.hid (Below.refl _ _), Lib.hid fun j hj => by omega⟩
  case round =>
    obtain ⟨k, hk, rfl, HB, HD⟩ := hrel
    by_cases hlt : k < m
    · obtain ⟨b, off, rfl, hb, hc⟩ := HA.out (by omega)
      obtain ⟨x0, x1, x2, x3⟩ := hc k hlt
      have hcell : ∀ {o : Nat} {v : Value}, w.cell? ⟨b, o, none⟩ = some v → wr.cell? ⟨b, o, none⟩ = some v := fun {o v} h => (HB.out.cell (p := ⟨b, o, none⟩) hb).trans h
      have x0 := hcell x0
      have x1 := hcell x1
      have x2 := hcell x2
      have x3 := hcell x3
      have C := Lib.hid (HP.out k hlt)
      have PYk := Lib.hid (PY.out k hlt)
      have HDk : Hid (p k = false → ∀ j, j < k + 1 → p j = false) := Lib.hid fun h j hj => by
        by_cases e : j = k
        · rw [e]; exact h
        · exact HD.out j (by omega)
      have e0 : (0 : Int) ≤ (k : Int) := Int.natCast_nonneg _
      have e1 : (k : Int) < (m : Int) := by omega
      have e2 : (m : Int) ≤ 24 := by omega
      clear hc hk hcell
      generalize (P k).1 = px, (P k).2 = py, (Q k).1 = qx, (Q k).2 = qy at x0 x1 x2 x3 C
      generalize p k = pk at C PYk HDk
      go_wp2_with fail
      refine (C.out _).mono ?_
      rintro e w4 ⟨rfl, b4⟩
      have HB4 := Lib.hid (below_then HB.out b4)
      clear x0 x1 x2 x3 b4
      cases pk
      · have HDD := Lib.hid (HDk.out (by first | rfl | trivial))
        clear HDk PYk HD
        go_wp2_with fail
        go_roundw
        case rel => exact ⟨k + 1, by omega, by go_num, HB4, HDD⟩
        case measure => simp [intOf]; omega
      · have HE := Lib.hid (PYk.out (by first | rfl | trivial) HD.out)
        clear HDk PYk HD
        go_wp2_with fail
        go_ret
        exact ⟨by rw [HE.out]; rfl, HB4.out⟩
    · have HE := Lib.hid (PN.out fun j hj => HD.out j (by omega))
      have e3 : ¬ (k : Int) < (m : Int) := by omega
      clear hk HD
      go_wp2_with fail
      go_ret
      exact ⟨by rw [HE.out]; rfl, HB.out⟩
theorem icont (a b : Pt) (A : Option Addr) (m cp : Nat) (P Q : Nat → Pt) (p : Nat → Bool) (hm : m ≤ 24) (w : World) (hA : Sides w A m P Q)
    (hp : ∀ (j : Nat), j < m → ∀ w', Calls Tryd.prog 32 #[sdV a b, sdV (P j) (Q j)] w' fun e w2 => e = .returned (.bool (p j)) ∧ Below w'.heap.size w' w2) :
    Calls Tryd.prog 31 #[.slice A m cp, .func (.func 32) #[sdV a b] #[]] w fun e w' => e = .returned (.bool (tv (∃ j, j < m ∧ p j = true))) ∧ Below w.heap.size w w' := by
  have C := Lib.hid (iindex 0 #[] a b A m cp P Q p hm w hA hp)
  have e : tv (∃ j, j < m ∧ p j = true) = decide (0 ≤ fst p m) := by
    by_cases h : ∃ j, j < m ∧ p j = true
    · rw [tv_yes h, decide_eq_true ((fst_nonneg p m).2 h)]
    · rw [tv_no h, decide_eq_false fun k => h ((fst_nonneg p m).1 k)]
  rw [e]
  generalize fst p m = r at C ⊢
  clear hA hp e
  simp only [sdV] at C ⊢
  go_enter Tryd.func31, Tryd.ntmps31
  go_wp2_with fail
  refine C.out.mono ?_
  rintro e w4 ⟨rfl, b4⟩
  have HB4 := Lib.hid b4
  clear b4
  go_wp2_with fail
  go_ret
  exact ⟨rfl, HB4.out⟩
end Go.Proofs.YtggbdpamjjgakaaDoor.Ok
