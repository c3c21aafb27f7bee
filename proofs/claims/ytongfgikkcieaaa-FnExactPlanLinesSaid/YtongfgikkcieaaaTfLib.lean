/- Hides: math/bits.OnesCount64, and how many fields pieces have. -/
import Derived.Test.YtongfgikkcieaaaTeLib
import Derived.Test.YtongfgikkcieaaaT9Lib
import Derived.Test.YtongfgikkcieaaaH8Lib
import Derived.Laws.Bits128
namespace Go.Proofs.Ytongfgikkcieaaa.Tf
set_option linter.unusedVariables false
open Go.RowKit Ft Is Ge Qb Hd Ts H2 H5 H6 H8 T1 T2 T3 T4 Te
open Go.Proofs.Ytongfgikkcieaaa.Nm (byt byt_of)

theorem band (y c a : Nat) (Y C : Int) (hY : Y = (y : Int)) (hC : C = (c : Int)) (hy : y < 18446744073709551616) (hc : c < 18446744073709551616) (h : y &&& c = a) : bits .and .u64 Y C = (a : Int) := by
  rw [hY, hC, bits_and_u64_nat _ _ hy hc, h]
theorem wsum (y : Nat) (Y : Int) (h : Y = (y : Int)) (hy : y < 18446744073709551616) : IntKind.u64.wrap Y = (y : Int) := by
  rw [h, IntKind.wrap_u64]
  omega
set_option maxRecDepth 100000 in
theorem ones (x : Nat) (hx : x < 2 ^ 64) (w : World) : Calls Try.prog 107 #[.int .u64 (x : Int)] w fun e w' => e = .returned (.int .i64 (pn 64 x : Int)) ∧ w = w' := by
  obtain ⟨a1, a2, y, b1, b2, z, s, v, v1, v2, v3, ⟨p1, p2, p3⟩, ⟨p4, p5, p6⟩, ⟨p7, p8⟩, ⟨p9, p10, p11⟩, ⟨q1, q2, q3, q4, q5, q6⟩, hp⟩ := Te.all x hx
  have HP : Hid (bits .and .i64 (v3 : Int) 127 = (pn 64 x : Int)) := Lib.hid (by rw [i64_and127, ← hp]; omega)
  have x0 : (0 : Int) ≤ (x : Int) := Int.natCast_nonneg _
  have y0 : (0 : Int) ≤ (y : Int) := Int.natCast_nonneg _
  have z0 : (0 : Int) ≤ (z : Int) := Int.natCast_nonneg _
  have v0 : (0 : Int) ≤ (v : Int) := Int.natCast_nonneg _
  have v10 : (0 : Int) ≤ (v1 : Int) := Int.natCast_nonneg _
  have v20 : (0 : Int) ≤ (v2 : Int) := Int.natCast_nonneg _
  have f1 : bits .and .u64 ((x : Int) / 2) 6148914691236517205 = (a1 : Int) := band (x / 2) 6148914691236517205 a1 _ _ (by omega) rfl (by omega) (by decide) p1
  have f2 : bits .and .u64 (x : Int) 6148914691236517205 = (a2 : Int) := band x 6148914691236517205 a2 _ _ rfl rfl (by omega) (by decide) p2
  have f3 : IntKind.u64.wrap ((a1 : Int) + (a2 : Int)) = (y : Int) := wsum y _ (by omega) (by omega)
  have f4 : bits .and .u64 ((y : Int) / 4) 3689348814741910323 = (b1 : Int) := band (y / 4) 3689348814741910323 b1 _ _ (by omega) rfl (by omega) (by decide) p4
  have f5 : bits .and .u64 (y : Int) 3689348814741910323 = (b2 : Int) := band y 3689348814741910323 b2 _ _ rfl rfl (by omega) (by decide) p5
  have f6 : IntKind.u64.wrap ((b1 : Int) + (b2 : Int)) = (z : Int) := wsum z _ (by omega) (by omega)
  have f7 : IntKind.u64.wrap ((z : Int) / 16 + (z : Int)) = (s : Int) := wsum s _ (by omega) (by omega)
  have f8 : bits .and .u64 (s : Int) 1085102592571150095 = (v : Int) := band s 1085102592571150095 v _ _ rfl rfl (by omega) (by decide) p8
  have hv1 : v1 < 18446744073709551616 := by omega
  have f9 : IntKind.u64.wrap ((v : Int) + (v : Int) / 256) = (v1 : Int) := wsum v1 _ (by omega) hv1
  have hv2 : v2 < 18446744073709551616 := by omega
  have f10 : IntKind.u64.wrap ((v1 : Int) + (v1 : Int) / 65536) = (v2 : Int) := wsum v2 _ (by omega) hv2
  have f11 : IntKind.u64.wrap ((v2 : Int) + (v2 : Int) / 4294967296) = (v3 : Int) := wsum v3 _ (by omega) (by omega)
  have f12 : IntKind.i64.wrap (v3 : Int) = (v3 : Int) := IntWalk.i64_in _ (by omega)
  clear p1 p2 p3 p4 p5 p6 p7 p8 p9 p10 p11 q1 q2 q3 q4 q5 q6 hp hv1 hv2 hx
  generalize pn 64 x = r at HP ⊢
  go_enter Try.func107, Try.ntmps107
  go_wp2_with fail
  go_ret
  exact ⟨Ba.ret_int HP.out, rfl⟩
theorem icount (x : Nat) (hx : x < 2 ^ 64) (w : World) : Calls Try.prog 84 #[.int .u64 (x : Int)] w fun e w' => e = .returned (.int .i64 (pn 64 x : Int)) ∧ w = w' := by
  have C := Lib.hid (ones x hx w)
  have hp := pn_le 64 x
  generalize pn 64 x = r at C hp ⊢
  have f1 : IntKind.i64.wrap (r : Int) = (r : Int) := IntWalk.i64_in _ (by omega)
  go_enter Try.func84, Try.ntmps84
  go_wp2_with fail
  refine C.out.mono ?_
  rintro e w' ⟨rfl, rfl⟩
  go_wp2_with fail
  go_ret
  exact ⟨rfl, rfl⟩
/-- How many of the first k numbers hold. -/
def cb (p : Nat → Bool) : Nat → Nat
  | 0 => 0
  | k + 1 => cb p k + if p k = true then 1 else 0
theorem cb_congr {p q : Nat → Bool} : ∀ {k : Nat}, (∀ i, i < k → p i = q i) → cb p k = cb q k
  | 0, _ => rfl
  | k + 1, h => by
    unfold cb
    rw [cb_congr (k := k) fun i hi => h i (by omega), h k (by omega)]
theorem cb_head (p : Nat → Bool) : ∀ k, cb p (k + 1) = (if p 0 = true then 1 else 0) + cb (fun i => p (i + 1)) k
  | 0 => by simp [cb]
  | k + 1 => by
    show cb p (k + 1) + (if p (k + 1) = true then 1 else 0) = _ + (cb (fun i => p (i + 1)) k + if p (k + 1) = true then 1 else 0)
    rw [cb_head p k]
    omega
theorem pn_cb : ∀ k x, pn k x = cb x.testBit k
  | 0, _ => rfl
  | k + 1, x => by
    rw [cb_head]
    show x % 2 + pn k (x / 2) = _
    rw [pn_cb k (x / 2), cb_congr (p := (x / 2).testBit) (q := fun i => x.testBit (i + 1)) fun i _ => (Nat.testBit_succ x i).symm, Nat.testBit_zero]
    have := Nat.mod_lt x (show 0 < 2 by omega)
    by_cases e : x % 2 = 1
    · rw [if_pos (decide_eq_true e)]; omega
    · rw [if_neg (by simp; omega)]; omega
theorem cb_or {p q r : Nat → Bool} : ∀ {k : Nat}, (∀ i, i < k → r i = (p i || q i)) → (∀ i, i < k → p i = true → q i = true → False) → cb r k = cb p k + cb q k
  | 0, _, _ => rfl
  | k + 1, h, d => by
    unfold cb
    rw [cb_or (k := k) (fun i hi => h i (by omega)) (fun i hi => d i (by omega)), h k (by omega)]
    have dk := d k (by omega)
    cases hp : p k
    · cases hq : q k <;> simp <;> omega
    · cases hq : q k
      · simp; omega
      · exact (dk hp hq).elim
theorem pn_or {x y : Nat} (k : Nat) (h : x &&& y = 0) : pn k (x ||| y) = pn k x + pn k y := by
  rw [pn_cb, pn_cb, pn_cb]
  exact cb_or (fun i _ => Nat.testBit_or x y i) fun i _ h1 h2 => and_zero.1 h i h1 h2
theorem cb_range (s W : Nat) : ∀ k, cb (fun i => decide (s ≤ i ∧ i < s + W)) k = if k ≤ s then 0 else if k ≤ s + W then k - s else W
  | 0 => by simp [cb]
  | k + 1 => by
    unfold cb
    rw [cb_range s W k]
    by_cases h1 : k + 1 ≤ s
    · rw [if_pos h1, if_pos (by omega), if_neg (by simp; omega)]
    · rw [if_neg h1]
      by_cases h2 : k + 1 ≤ s + W
      · rw [if_pos h2, if_pos (show decide (s ≤ k ∧ k < s + W) = true by simp; omega)]
        by_cases h3 : k ≤ s
        · rw [if_pos h3]; omega
        · rw [if_neg h3, if_pos (by omega)]; omega
      · rw [if_neg h2, if_neg (show ¬ decide (s ≤ k ∧ k < s + W) = true by simp; omega)]
        by_cases h3 : k ≤ s
        · rw [if_pos h3]; omega
        · rw [if_neg h3]
          by_cases h4 : k ≤ s + W
          · rw [if_pos h4]; omega
          · rw [if_neg h4]; omega
/-- A piece has as many fields as its width times its height. -/
theorem pc_count {C W t : Nat} (hW1 : 1 ≤ W) (hW : W ≤ C) : ∀ H, (∀ k, k < H → t + k * C + W ≤ 64) → pn 64 (pcN C W t H) = W * H
  | 0, _ => by
    show pn 64 0 = 0
    decide
  | H + 1, h => by
    have ih := pc_count (t := t) hW1 hW H fun k hk => h k (by omega)
    have hl := h H (by omega)
    have hr : ∀ i, i < 64 → (((2 ^ W - 1) * 2 ^ (t + H * C)) % 2 ^ 64).testBit i = decide (t + H * C ≤ i ∧ i < t + H * C + W) := fun i hi => by
      rw [Nat.testBit_mod_two_pow, Nat.testBit_mul_two_pow, Nat.testBit_two_pow_sub_one]
      by_cases c1 : t + H * C ≤ i
      · by_cases c2 : i < t + H * C + W
        · have : i - (t + H * C) < W := by omega
          simp [hi, c1, c2, this]
        · have : ¬ i - (t + H * C) < W := by omega
          simp [hi, c1, c2, this]
      · simp [c1]
    unfold pcN
    rw [pn_or 64 (and_zero.2 fun b h1 h2 => ?_), ih, pn_cb, cb_congr hr, cb_range]
    · rw [if_neg (by omega)]
      by_cases c : 64 ≤ t + H * C + W
      · rw [if_pos c, Nat.mul_add]; omega
      · rw [if_neg c, Nat.mul_add]; omega
    · obtain ⟨hb, k, hk, k1, k2⟩ := (pc_bit C W t b H).1 h1
      rw [hr b hb] at h2
      have h3 := of_decide_eq_true h2
      have : (k + 1) * C ≤ H * C := Nat.mul_le_mul_right C hk
      rw [Nat.add_mul] at this
      omega
theorem fit_count {n C : Nat} {q : Nat → Nat → Int} {W H t : Nat} {Q : Int} (hW1 : 1 ≤ W) (hn : n ≤ 6) (hC : 1 ≤ C ∧ C ≤ 6) (hf : FitP n C q (W : Int) (H : Int) Q t) : pn 64 (foN C W H t) = W * H := by
  rw [fo_fit hf]
  have h36 := size_36 hn hC.2
  obtain ⟨a1, a2, _⟩ := hf
  have b1 : t / C + H ≤ n := by omega
  have b2 : t % C + W ≤ C := by omega
  refine pc_count hW1 (by omega) H fun k hk => ?_
  rw [at_row]
  have : (t / C + k + 1) * C ≤ n * C := Nat.mul_le_mul_right C (by omega)
  rw [Nat.add_mul (t / C + k) 1] at this
  omega
/-- A plan without a fault uses as many fields as its pieces have together. -/
theorem us_count {n C : Nat} {q : Nat → Nat → Int} {g p : Nat → Int} (hn : n ≤ 6) (hC : 1 ≤ C ∧ C ≤ 6) : ∀ {m : Nat}, (∀ j, j < m → 1 ≤ g (j * 4) ∧ 1 ≤ g (j * 4 + 1)) → (∀ j, j < m → ¬ WrongP n C q g p j) → (pn 64 (usN C g p m) : Int) = usI g p m
  | 0, _, _ => by
    show ((pn 64 0 : Nat) : Int) = 0
    decide
  | m + 1, hg, hw => by
    have ih := us_count (q := q) (p := p) hn hC (m := m) (fun j hj => hg j (by omega)) fun j hj => hw j (by omega)
    unfold usN usI
    by_cases h0 : 0 ≤ p m
    · have hwr := wrong_iff (q := q) (p := p) (i := m) hn hC (fun j hj => hg j (by omega)) (fun j hj => hw j (by omega)) h0
      have hno := fun e => hw m (by omega) (hwr.2 e)
      have hf : FitP n C q (g (m * 4)) (g (m * 4 + 1)) (g (m * 4 + 2)) (p m).toNat := Classical.byContradiction fun e => hno (.inl e)
      have hd : foP C g p m &&& usN C g p m = 0 := Classical.byContradiction fun e => hno (.inr e)
      have hgm := hg m (by omega)
      obtain ⟨W, hW⟩ : ∃ W : Nat, g (m * 4) = (W : Int) := ⟨(g (m * 4)).toNat, by omega⟩
      obtain ⟨H, hH⟩ : ∃ H : Nat, g (m * 4 + 1) = (H : Int) := ⟨(g (m * 4 + 1)).toNat, by omega⟩
      have hfo : foP C g p m = foN C W H (p m).toNat := by
        unfold foP
        rw [if_neg (by omega), hW, hH, Int.toNat_natCast, Int.toNat_natCast]
      rw [hW, hH] at hf
      rw [pn_or 64 (by rw [Nat.and_comm]; exact hd), if_pos h0, hfo, fit_count (by omega) hn hC hf, hW, hH, ← ih, Int.natCast_add, Int.natCast_mul]
    · have hfo : foP C g p m = 0 := by unfold foP; rw [if_pos (by omega)]
      rw [hfo, Nat.or_zero, if_neg h0, ih]
      omega
theorem pn_bs (p : Nat → Bool) {N : Nat} (hN : N ≤ 64) : pn 64 (bs p N) = cb p N := by
  rw [pn_cb, cb_congr fun i _ => bs_bit p i N]
  have : ∀ k, cb (fun i => decide (i < N) && p i) (N + k) = cb p N := by
    intro k
    induction k with
    | zero => exact cb_congr fun i hi => by rw [decide_eq_true (show i < N by omega), Bool.true_and]
    | succ k ih =>
      show cb _ (N + k) + (if (decide (N + k < N) && p (N + k)) = true then 1 else 0) = _
      rw [ih, decide_eq_false (by omega)]
      simp
  have h := this (64 - N)
  rwa [show N + (64 - N) = 64 by omega] at h
theorem cb_row {f : Nat → ByteArray} {C k : Nat} (hC : 1 ≤ C) : ∀ x, x ≤ C → (cb (fun t => decide ((1 : Int) ≤ qf f (t / C) (t % C))) (k * C + x) : Int) = (cb (fun t => decide ((1 : Int) ≤ qf f (t / C) (t % C))) (k * C) : Int) + gdR (f k) x
  | 0, _ => by show _ = _ + (0 : Int); rw [Nat.add_zero, Int.add_zero]
  | x + 1, hx => by
    have ih := cb_row (f := f) (k := k) hC x (by omega)
    obtain ⟨d1, d2⟩ := dm (r := k) (c := x) (C := C) (by omega)
    show ((cb _ (k * C + x) + (if decide ((1 : Int) ≤ qf f ((k * C + x) / C) ((k * C + x) % C)) = true then 1 else 0) : Nat) : Int) = _ + (gdR (f k) x + if 0 < qI (byt (f k) x) then 1 else 0)
    rw [d1, d2, Int.natCast_add, ih]
    unfold qf
    by_cases h : 0 < qI (byt (f k) x)
    · rw [if_pos h, if_pos (by simp; omega)]; omega
    · rw [if_neg h, if_neg (by simp; omega)]; omega
theorem cb_hide {f : Nat → ByteArray} {C : Nat} (hC : 1 ≤ C) : ∀ {n : Nat}, (∀ j, j < n → (f j).size = C) → (cb (fun t => decide ((1 : Int) ≤ qf f (t / C) (t % C))) (n * C) : Int) = gdH f n
  | 0, _ => by
    rw [Nat.zero_mul]
    rfl
  | n + 1, h => by
    have ih := cb_hide (f := f) hC (n := n) fun j hj => h j (by omega)
    rw [Nat.add_mul, Nat.one_mul, cb_row hC C (Nat.le_refl _), ih]
    show _ = gdH f n + gdR (f n) (f n).size
    rw [h n (by omega)]
theorem gd_count {n : Nat} {f : Nat → ByteArray} (h : AlP n f) : (pn 64 (gdN n (f 0).size (qf f) 1) : Int) = gdH f n := by
  unfold gdN
  rw [pn_bs _ (by have := size_36 h.2.1.2 h.2.2.2; omega)]
  exact cb_hide h.2.2.1 h.1
end Go.Proofs.Ytongfgikkcieaaa.Tf
