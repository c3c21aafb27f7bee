/- Hides: the program's fieldsOf and fitsSomewhere. -/
import Derived.Test.YtongfgikkcieaaaT2Lib
namespace Go.Proofs.Ytongfgikkcieaaa.T3
set_option linter.unusedVariables false
open Go.RowKit Ft Is Ge Qb Hd Ts H2 T1 T2
open Go.Proofs.Ytongfgikkcieaaa.Nm (byt byt_of)

theorem wrap_shl {x c : Nat} : IntKind.u64.wrap ((x : Int) * 2 ^ c) = ((x * 2 ^ c % 2 ^ 64 : Nat) : Int) := by
  rw [IntKind.wrap_u64, pow_nat, ← Int.natCast_mul]
  omega
theorem wrap_shm {x c : Nat} : IntKind.u64.wrap ((x : Int) * 2 ^ min c 64) = ((x * 2 ^ c % 2 ^ 64 : Nat) : Int) := by
  rw [wrap_shl]
  by_cases h : c ≤ 64
  · rw [Nat.min_eq_left h]
  · rw [Nat.min_eq_right (by omega)]
    have e : 2 ^ c = 2 ^ (c - 64) * 2 ^ 64 := by rw [← Nat.pow_add]; congr 1; omega
    rw [e, ← Nat.mul_assoc, Nat.mul_mod_left, Nat.mul_mod_left]
/-- What stays while a piece is looked at: all that lay before, and the boxes of the hide and the piece. -/
structure Two (w wr : World) (o p : Obj) : Prop where
  bel : Below w.heap.size w wr
  hid : wr.heap[w.heap.size]? = some o
  cut : wr.heap[w.heap.size + 1]? = some p
theorem two_new (w : World) (o p : Obj) : Two w ((w.alloc o).alloc p) o p := by
  refine ⟨below_then (below_box w o) ?_, blk_old _ (heap_alloc_new _ _), ?_⟩
  · have := below_box (w.alloc o) p
    exact this
  · have := heap_alloc_new (w.alloc o) p
    rwa [World.size_alloc] at this
theorem Two.drewN {w wr : World} {o p : Obj} (h : Two w wr o p) (q : Nat) : Two w (wr.drewN q) o p := ⟨below_then h.bel (He.below_drewN wr q), h.hid, h.cut⟩
set_option maxRecDepth 100000 in
set_option maxHeartbeats 2000000 in
theorem ifo (n C : Nat) (s : ByteArray) (g0 g1 g2 g3 : Nat) (W H : Nat) (Q d : Int) (t : Nat) (G : Nat) (hC : 1 ≤ C ∧ C ≤ 6) (hW : 1 ≤ W ∧ W ≤ 6) (hH : H ≤ 6) (ht : t < 36) (hG : G < 2 ^ 64)
    (hQ : (Q = 1 ∧ G = g1) ∨ (Q = 2 ∧ G = g2) ∨ (Q = 3 ∧ G = g3)) (w : World) :
    Calls Try.prog 99 #[hdV n C s g0 g1 g2 g3, cuV W H Q d, .int .i64 (t : Int)] w fun e w' => e = .returned (.tuple #[.int .u64 (foN C W H t : Int), .bool (decide (t % C + W ≤ C) && decide (pcN C W t H &&& (18446744073709551615 - G) = 0))]) ∧ Below w.heap.size w w' := by
  have BX := Lib.hid (two_new w (hdC n C s g0 g1 g2 g3) (.cells #[.int .i64 W, .int .i64 H, .int .i64 Q, .int .i64 d] 42))
  have D2 : ((t : Int) % (C : Int)) = ((t % C : Nat) : Int) := by rw [Int.natCast_emod]
  have hcl : t % C < C := Nat.mod_lt _ (by omega)
  have FN : Hid (C < t % C + W → ∀ W', Below w.heap.size w W' → (fun e w' => e = Ending.returned (.tuple #[.int .u64 (foN C W H t : Int), .bool (decide (t % C + W ≤ C) && decide (pcN C W t H &&& (18446744073709551615 - G) = 0))]) ∧ Below w.heap.size w w') (.returned (.tuple #[.int .u64 0, .bool false])) W') := Lib.hid fun h W' hb => ⟨by
    unfold foN
    rw [if_neg (by omega), decide_eq_false (by omega)]
    rfl, hb⟩
  have FY : Hid (t % C + W ≤ C → ∀ W', Below w.heap.size w W' → (fun e w' => e = Ending.returned (.tuple #[.int .u64 (foN C W H t : Int), .bool (decide (t % C + W ≤ C) && decide (pcN C W t H &&& (18446744073709551615 - G) = 0))]) ∧ Below w.heap.size w w') (.returned (.tuple #[.int .u64 (pcN C W t H : Int), .bool (decide (pcN C W t H &&& (18446744073709551615 - G) = 0))])) W') := Lib.hid fun h W' hb => ⟨by
    unfold foN
    rw [if_pos h, decide_eq_true h]
    rfl, hb⟩
  generalize (fun e w' => e = Ending.returned (.tuple #[.int .u64 (foN C W H t : Int), .bool (decide (t % C + W ≤ C) && decide (pcN C W t H &&& (18446744073709551615 - G) = 0))]) ∧ Below w.heap.size w w') = POST at FN FY ⊢
  have CP := Lib.hid (fun w => ipart (pcN C W t H) G (pc_64 C W t H) hG w)
  have e4 : (0 : Int) ≤ (t : Int) := Int.natCast_nonneg _
  have hk1 : ¬ (C : Int) = 0 := by omega
  have hk2 : ¬ (C : Int) = -1 := by omega
  have hk0 : ((C : Int) == 0) = false := beq_eq_false_iff_ne.2 hk1
  have hk3 : ((C : Int) == -1) = false := beq_eq_false_iff_ne.2 hk2
  have hk4 : ¬ C = 0 := by omega
  have hw0 : (0 : Int) ≤ (W : Int) := Int.natCast_nonneg _
  have hw1 : ¬ (W : Int) < 0 := by omega
  obtain ⟨p2, hp1, hp2e⟩ : ∃ p2 : Nat, IntKind.u64.wrap ((2 : Int) ^ W) = (p2 : Int) ∧ p2 = 2 ^ W := ⟨2 ^ W, wrap_pow (by omega), rfl⟩
  obtain ⟨r1, hp2, hr1⟩ : ∃ r1 : Nat, IntKind.u64.wrap ((p2 : Int) - 1) = (r1 : Int) ∧ r1 = 2 ^ W - 1 := by
    have h1 := Nat.two_pow_pos W
    have h2 : 2 ^ W < 2 ^ 64 := Nat.pow_lt_pow_right (by omega) (by omega)
    have e : (p2 : Int) - 1 = ((2 ^ W - 1 : Nat) : Int) := by omega
    exact ⟨2 ^ W - 1, by rw [e]; exact wrap_nat (by omega), rfl⟩
  have PS : Hid (∀ k sh : Nat, sh = t + k * C → ∃ nv nx : Nat, IntKind.u64.wrap ((r1 : Int) * 2 ^ min sh 64) = (nv : Int) ∧ bits .or .u64 (pcN C W t k : Int) (nv : Int) = (nx : Int) ∧ pcN C W t (k + 1) = nx) := Lib.hid fun k sh e => by
    refine ⟨r1 * 2 ^ sh % 2 ^ 64, pcN C W t (k + 1), wrap_shm, ?_, rfl⟩
    rw [bits_or_u64_nat _ _ (pc_64 C W t k) (Nat.mod_lt _ (by omega)), e, hr1]
    rfl
  have P0 : pcN C W t 0 = 0 := rfl
  clear hp2e hr1
  unfold cuV
  go_enter Try.func99, Try.ntmps99
  go_upto_region 1 with fail
  generalize hw0 : (w.alloc _).alloc _ = w0 at BX ⊢
  clear hw0
  obtain ⟨k0, k1, k2, k3, k4, k5, k6⟩ := blk7 BX.out.hid
  obtain ⟨m0, m1, m2, m3⟩ := blk4 BX.out.cut
  have hm0 : 0 ≤ (t : Int) % (C : Int) := by rw [D2]; omega
  have hm1 : (t : Int) % (C : Int) < (C : Int) := by rw [D2]; omega
  have hws : IntKind.i64.wrap ((t : Int) % (C : Int) + (W : Int)) = (t : Int) % (C : Int) + (W : Int) := IntWalk.i64_in _ (by omega)
  have HD2 := Lib.hid D2
  by_cases h1 : (C : Int) < (t : Int) % (C : Int) + (W : Int)
  · have hF := Lib.hid (fun q => FN.out (by rw [D2] at h1; omega) _ (BX.out.drewN q).bel)
    clear FN FY CP D2
    go_quiet ((fail))
    go_wp2_with fail
    exact hF.out _
  have hF := Lib.hid (FY.out (by rw [D2] at h1; omega))
  clear FN FY D2
  go_quiet ((fail))
  clear hm0 hm1 hws h1
  go_wp2_with fail
  clear k0 k1 k2 k3 k4 k5 k6 m0 m1 m2 m3 hp1 hp2
  go_loopw [9, 27] (fun x y wr => ∃ k : Nat, k ≤ H ∧ x = .int .u64 (pcN C W t k : Int) ∧ y = .int .i64 (k : Int) ∧ Hid (Two w wr (hdC n C s g0 g1 g2 g3) (.cells #[.int .i64 W, .int .i64 H, .int .i64 Q, .int .i64 d] 42))) (fun _ y _ => H - (intOf y).toNat)
  case atStart => exact ⟨0, Nat.zero_le _, by rw [P0]; rfl, rfl, Lib.hid (BX.out.drewN _)⟩
  case round =>
    obtain ⟨k, hk, rfl, rfl, HX⟩ := hrel
    obtain ⟨k0, k1, k2, k3, k4, k5, k6⟩ := blk7 HX.out.hid
    obtain ⟨m0, m1, m2, m3⟩ := blk4 HX.out.cut
    have f0 : (0 : Int) ≤ (k : Int) := Int.natCast_nonneg _
    by_cases hlt : k < H
    · have g1 : (k : Int) < (H : Int) := by omega
      have hk1 : k + 1 ≤ H := by omega
      have h36 : k * C ≤ 6 * 6 := Nat.mul_le_mul (by omega) (by omega)
      obtain ⟨kc, hkc, hkm⟩ : ∃ kc : Nat, k * C = kc ∧ IntKind.i64.wrap ((k : Int) * (C : Int)) = (kc : Int) := ⟨k * C, rfl, by rw [← Int.natCast_mul]; exact IntWalk.i64_in _ (by omega)⟩
      obtain ⟨sh, hsh, hsm⟩ : ∃ sh : Nat, sh = t + k * C ∧ IntKind.i64.wrap ((t : Int) + (kc : Int)) = (sh : Int) := ⟨t + k * C, rfl, by
        have e : (t : Int) + (kc : Int) = ((t + k * C : Nat) : Int) := by omega
        rw [e]; exact IntWalk.i64_in _ (by omega)⟩
      obtain ⟨nv, nx, q1, q2, q3⟩ := PS.out k sh hsh
      have s0 : (0 : Int) ≤ (sh : Int) := Int.natCast_nonneg _
      have s1 : ¬ (sh : Int) < 0 := by omega
      have Q3 := Lib.hid q3
      clear hsh hkc q3
      generalize pcN C W t k = pv at q2 ⊢
      clear hk
      go_wp2_with fail
      go_roundw
      case rel => exact ⟨k + 1, hk1, by rw [Q3.out], by go_num, HX⟩
      case measure => simp [intOf]; omega
    · obtain rfl : k = H := by omega
      have HF := Lib.hid (fun W' hb => hF.out W' hb)
      generalize pcN C W t k = pv at CP HF ⊢
      rcases hQ with ⟨rfl, rfl⟩ | ⟨rfl, rfl⟩ | ⟨rfl, rfl⟩
      all_goals
        go_wp2_with fail
        refine (CP.out _).mono ?_
        rintro e w' ⟨rfl, rfl⟩
        go_wp2_with fail
        exact HF.out _ HX.out.bel
end Go.Proofs.Ytongfgikkcieaaa.T3
