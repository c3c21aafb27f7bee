/- Blocks on a roll: the spec's HeightBound. -/
import Derived.Test.YtgclhkiiaclkgabJrLib
import Derived.Deep.DeepCutAuto
namespace Go.Proofs.Ytgclhkiiaclkgab.Js
set_option linter.unusedVariables false
open Go.RowKit Is Ge Qb Jr
open Go.Proofs.Ytgclhkiiaclkgab.Ba (inB below_then below_box ret_bool)

theorem below_drewN (w : World) : ∀ n, Below w.heap.size w (w.drewN n)
  | 0 => Below.refl _ _
  | n + 1 => (below_drewN w n).drew
theorem prod_in {x y X Y : Int} (h1 : 0 ≤ x ∧ x ≤ X) (h2 : 0 ≤ y ∧ y ≤ Y) : 0 ≤ x * y ∧ x * y ≤ X * Y :=
  ⟨Int.mul_nonneg h1.1 h2.1, Int.mul_le_mul h1.2 h2.2 h2.1 (by omega)⟩
/-- The area of the first k blocks, and their greatest height. -/
def arI (g : Nat → Int) : Nat → Int
  | 0 => 0
  | k + 1 => arI g k + g (k * 2) * g (k * 2 + 1)
def taI (g : Nat → Int) : Nat → Int
  | 0 => 0
  | k + 1 => max (taI g k) (g (k * 2 + 1))
theorem ar_in {roll : Int} {n : Nat} {g : Nat → Int} (h : BlP roll n g) : ∀ {k : Nat}, k ≤ n → 0 ≤ arI g k ∧ arI g k ≤ 25000000 * (k : Int)
  | 0, _ => ⟨Int.le_refl _, Int.le_refl _⟩
  | k + 1, hk => by
    have h1 := ar_in h (show k ≤ n by omega)
    have h2 := blk_in (h.2 k (by omega))
    have h3 := inb h.1.1
    have h4 := prod_in (X := 5000) (Y := 5000) (show 0 ≤ g (k * 2) ∧ g (k * 2) ≤ 5000 by omega) (show 0 ≤ g (k * 2 + 1) ∧ g (k * 2 + 1) ≤ 5000 by omega)
    unfold arI
    omega
theorem ta_in {roll : Int} {n : Nat} {g : Nat → Int} (h : BlP roll n g) : ∀ {k : Nat}, k ≤ n → 0 ≤ taI g k ∧ taI g k ≤ 5000
  | 0, _ => ⟨Int.le_refl _, by unfold taI; omega⟩
  | k + 1, hk => by
    have h1 := ta_in h (show k ≤ n by omega)
    have h2 := blk_in (h.2 k (by omega))
    unfold taI
    omega
def IAt (v C : Int) (w : World) (e : Ending) (w' : World) : Prop := e = .returned (.tuple #[.int .i64 v, .int .i64 C]) ∧ Below w.heap.size w w'
noncomputable def blC (roll : Int) (n : Nat) (g : Nat → Int) : Int := if tv (BlP roll n g) = true then 0 else 1
noncomputable def hbV (roll : Int) (n : Nat) (g : Nat → Int) : Int := if tv (BlP roll n g) = true then max (taI g n) ((arI g n + roll - 1) / roll) else 0
set_option maxRecDepth 100000 in
set_option maxHeartbeats 2000000 in
theorem spec_hb (A : Option Addr) (n c : Nat) (g : Nat → Int) (roll : Int) (hn : n ≤ 1048576) (w : World) (hA : Nums w w.heap.size A (n * 2) g) :
    Calls Try.prog 35 #[.slice A n c, .int .i64 roll] w (IAt (hbV roll n g) (blC roll n g) w) := by
  have HA := Lib.hid hA
  have C := Lib.hid (spec_ok A n c g roll hn w hA)
  have CM := Lib.hid (fun a b w => max_any a b w)
  have V0 : Hid (tv (BlP roll n g) = false → hbV roll n g = 0 ∧ blC roll n g = 1) := Lib.hid fun h => ⟨if_neg (by rw [h]; simp), if_neg (by rw [h]; simp)⟩
  have V1 : Hid (tv (BlP roll n g) = true → hbV roll n g = max (taI g n) ((arI g n + roll - 1) / roll) ∧ blC roll n g = 0) := Lib.hid fun h => ⟨if_pos h, if_pos h⟩
  have AI := Lib.hid (fun (h : tv (BlP roll n g) = true) k (hk : k ≤ n) => ar_in (tv_iff.1 h) hk)
  have TI := Lib.hid (fun (h : tv (BlP roll n g) = true) k (hk : k ≤ n) => ta_in (tv_iff.1 h) hk)
  have RI := Lib.hid (fun (h : tv (BlP roll n g) = true) => inb (tv_iff.1 h).1.1)
  have NI := Lib.hid (fun (h : tv (BlP roll n g) = true) => (tv_iff.1 h).1.2)
  have BI := Lib.hid (fun (h : tv (BlP roll n g) = true) k (hk : k < n) => blk_in ((tv_iff.1 h).2 k hk))
  have A0 : Hid (arI g 0 = 0) := Lib.hid rfl
  have AS : Hid (∀ k, arI g (k + 1) = arI g k + g (k * 2) * g (k * 2 + 1)) := Lib.hid fun k => rfl
  have T0 : Hid (taI g 0 = 0) := Lib.hid rfl
  have TS : Hid (∀ k, taI g (k + 1) = max (taI g k) (g (k * 2 + 1))) := Lib.hid fun k => rfl
  clear hA
  unfold IAt
  generalize tv (BlP roll n g) = ok at C V0 V1 AI TI RI NI BI
  generalize hbV roll n g = rv at V0 V1 ⊢
  generalize blC roll n g = rc at V0 V1 ⊢
  generalize arI g = S at *
  generalize taI g = T at *
  go_enter Try.func35, Try.ntmps35
  go_wp2_with fail
  refine C.out.mono ?_
  rintro e w1 ⟨rfl, rfl⟩
  cases ok
  · obtain ⟨r1, r2⟩ := V0.out rfl
    have R1 := Lib.hid r1
    have R2 := Lib.hid r2
    clear V0 V1 AI TI RI NI BI A0 AS T0 TS C r1 r2
    go_wp2_with fail
    exact bodyPost_ret (v := .tuple #[.int .i64 0, .int .i64 1]) (by simp [results, Try.results35, go_sem]) rfl ⟨by rw [R1.out, R2.out], Below.refl _ _⟩
  obtain ⟨r1, r2⟩ := V1.out rfl
  have R1 := Lib.hid r1
  have R2 := Lib.hid r2
  have AI1 := Lib.hid (AI.out rfl)
  have TI1 := Lib.hid (TI.out rfl)
  have BI1 := Lib.hid (BI.out rfl)
  have hroll := RI.out rfl
  have hn9 := NI.out rfl
  clear V0 V1 AI TI RI NI BI C r1 r2
  go_wp2_with fail
  go_loopw [6, 7, 8] (fun ar ta i wr => ∃ k : Nat, k ≤ n ∧ ar = .int .i64 (S k) ∧ ta = .int .i64 (T k) ∧ i = .int .i64 (k : Int) ∧ Hid (Below w.heap.size w wr)) (fun _ _ i _ => n - (intOf i).toNat)
  case atStart => exact ⟨0, Nat.zero_le _, by rw [A0.out], by rw [T0.out], rfl, Lib.hid (Below.refl _ _)⟩
  case round =>
    obtain ⟨k, hk, rfl, rfl, rfl, HB⟩ := hrel
    have e0 : (0 : Int) ≤ (k : Int) := Int.natCast_nonneg _
    by_cases hlt : k < n
    · obtain ⟨b, off, rfl, hb, hc⟩ := HA.out.below HB.out (Nat.le_refl _) (by omega)
      obtain ⟨x0, x1⟩ := Blk.cells_at hc hlt
      have e1 : (k : Int) < (n : Int) := by omega
      have hk1 : k + 1 ≤ n := by omega
      have y1 := AI1.out k hk
      have y2 := TI1.out k hk
      have y3 := BI1.out k hlt
      have HSk := Lib.hid (AS.out k)
      have HTk := Lib.hid (TS.out k)
      clear hc hk AI1 TI1 BI1 A0 AS T0 TS R1 R2
      generalize hS1 : S (k + 1) = s1 at HSk
      generalize hT1 : T (k + 1) = t1 at HTk
      generalize S k = s0 at *
      generalize T k = t0 at *
      generalize g (k * 2) = u0 at *
      generalize g (k * 2 + 1) = u1 at *
      have y4 := prod_in (X := 5000) (Y := 5000) (show 0 ≤ u0 ∧ u0 ≤ 5000 by omega) (show 0 ≤ u1 ∧ u1 ≤ 5000 by omega)
      generalize hpr : u0 * u1 = pr at y4 HSk
      have t2 : IntKind.i64.wrap (u0 * u1) = pr := by rw [hpr]; exact IntWalk.i64_in _ (by omega)
      have t3 : IntKind.i64.wrap (s0 + pr) = s0 + pr := IntWalk.i64_in _ (by omega)
      have CMk := Lib.hid (fun w => CM.out t0 u1 w)
      clear hpr
      have HDN := Lib.hid (fun q => below_then HB.out (below_drewN wr q))
      go_upto_region 8 with fail
      go_quiet (fail)
      have HF := Lib.hid (HDN.out nq)
      generalize max t0 u1 = mx at HTk CMk
      go_wp2_with (go_at_call 72; refine (CMk.out _).mono ?_; rintro e w' ⟨rfl, rfl⟩)
      go_roundw
      case rel => exact ⟨k + 1, hk1, by rw [hS1, HSk.out], by rw [hT1, HTk.out], by go_num, HF⟩
      case measure => simp [intOf]; omega
    · obtain rfl : k = n := by omega
      have y1 := AI1.out k (Nat.le_refl _)
      have y2 := TI1.out k (Nat.le_refl _)
      clear AI1 TI1 BI1 A0 AS T0 TS
      generalize S k = s0 at *
      generalize T k = t0 at *
      have q1 : 0 ≤ (s0 + roll - 1) / roll := Int.ediv_nonneg (by omega) (by omega)
      have q2 : (s0 + roll - 1) / roll ≤ s0 + roll - 1 := Int.ediv_le_self _ (by omega)
      have q3 : (roll == 0) = false := by simp; omega
      have q4 : ¬ roll = 0 := by omega
      have q5 : (s0 + roll - 1).tdiv roll = (s0 + roll - 1) / roll := Int.tdiv_eq_ediv_of_nonneg (by omega)
      generalize hmx : max t0 ((s0 + roll - 1) / roll) = mx at R1
      have CMk : Hid (∀ w, Calls Try.prog 72 #[.int .i64 t0, .int .i64 ((s0 + roll - 1) / roll)] w fun e w' => e = .returned (.int .i64 mx) ∧ w = w') := Lib.hid fun w => by rw [← hmx]; exact CM.out _ _ w
      clear CM hmx
      go_wp2_with (go_at_call 72; refine (CMk.out _).mono ?_; rintro e w' ⟨rfl, rfl⟩)
      exact bodyPost_ret (v := .tuple #[.int .i64 mx, .int .i64 0]) (by simp [results, Try.results35, go_sem]) rfl ⟨by rw [R1.out, R2.out], HB.out⟩
end Go.Proofs.Ytgclhkiiaclkgab.Js
