/- Hides: the program's fitsSomewhere and LargestCut; both orders find one rectangle. -/
import Derived.Test.YtongfgikkcieaaaT6Lib
import Derived.Test.YtongfgikkcieaaaH4Lib
namespace Go.Proofs.Ytongfgikkcieaaa.Tc
set_option linter.unusedVariables false
open Go.RowKit Ft Is Ge Qb Hd Ts H2 H3 H4 T1 T2 T3 T4 T5 T6
open Go.Proofs.Ytongfgikkcieaaa.Nm (byt byt_of)

/-- The best of what has been seen. -/
def Bst (p : Nat → Nat → Bool) (seen : Nat → Nat → Prop) (s : Nat × Nat) : Prop :=
  (s = (0, 0) ∧ ∀ a b, seen a b → p a b = false) ∨
  (seen s.1 s.2 ∧ 1 ≤ s.1 ∧ 1 ≤ s.2 ∧ p s.1 s.2 = true ∧ ∀ a b, seen a b → p a b = true → a * b < s.1 * s.2 ∨ (a * b = s.1 * s.2 ∧ a ≤ s.1))
theorem bst_eq {p : Nat → Nat → Bool} {seen : Nat → Nat → Prop} {s t : Nat × Nat} (h : Bst p seen s) (k : Bst p seen t) : s = t := by
  rcases h with ⟨h1, h2⟩ | ⟨h1, h2, h3, h4, h5⟩
  · rcases k with ⟨k1, _⟩ | ⟨k1, _, _, k4, _⟩
    · rw [h1, k1]
    · rw [h2 _ _ k1] at k4; cases k4
  · rcases k with ⟨_, k2⟩ | ⟨k1, k2, k3, k4, k5⟩
    · rw [k2 _ _ h1] at h4; cases h4
    · have a1 := h5 _ _ k1 k4
      have a2 := k5 _ _ h1 h4
      have e1 : s.1 * s.2 = t.1 * t.2 := by omega
      have e2 : s.1 = t.1 := by omega
      rw [e2] at e1
      have e3 : s.2 = t.2 := Nat.eq_of_mul_eq_mul_left (by omega) e1
      exact Prod.ext e2 e3
theorem bst_ext {p : Nat → Nat → Bool} {seen seen' : Nat → Nat → Prop} {s : Nat × Nat} (h : Bst p seen s) (h1 : ∀ a b, seen a b → seen' a b) (h2 : ∀ a b, seen' a b → p a b = true → seen a b) : Bst p seen' s := by
  rcases h with ⟨e, h⟩ | ⟨e1, e2, e3, e4, e5⟩
  · refine .inl ⟨e, fun a b hs => ?_⟩
    cases hp : p a b
    · rfl
    · rw [h a b (h2 a b hs hp)] at hp; cases hp
  · exact .inr ⟨h1 _ _ e1, e2, e3, e4, fun a b hs hp => e5 a b (h2 a b hs hp) hp⟩
/-- One more, no wider than all before: only if it is larger. -/
theorem bst_down {p : Nat → Nat → Bool} {seen : Nat → Nat → Prop} {s : Nat × Nat} {a b : Nat} (ha : 1 ≤ a) (hb : 1 ≤ b) (hw : ∀ x y, seen x y → a ≤ x) (h : Bst p seen s) : Bst p (fun x y => seen x y ∨ (x = a ∧ y = b)) (lcStep p s a b) := by
  have hab : 0 < a * b := Nat.mul_pos (by omega) (by omega)
  unfold lcStep
  by_cases hc : s.1 * s.2 < a * b ∧ p a b = true
  · rw [if_pos hc]
    refine .inr ⟨.inr ⟨rfl, rfl⟩, ha, hb, hc.2, fun x y hs hp => ?_⟩
    rcases hs with hs | ⟨rfl, rfl⟩
    · rcases h with ⟨_, h⟩ | ⟨_, _, _, _, h⟩
      · rw [h x y hs] at hp; cases hp
      · have := h x y hs hp
        exact .inl (by show x * y < a * b; omega)
    · exact .inr ⟨rfl, Nat.le_refl _⟩
  · rw [if_neg hc]
    rcases h with ⟨e, h⟩ | ⟨e1, e2, e3, e4, e5⟩
    · refine .inl ⟨e, fun x y hs => ?_⟩
      rcases hs with hs | ⟨rfl, rfl⟩
      · exact h x y hs
      · cases hp : p x y
        · rfl
        · exact absurd ⟨by rw [e]; exact hab, hp⟩ hc
    · refine .inr ⟨.inl e1, e2, e3, e4, fun x y hs hp => ?_⟩
      rcases hs with hs | ⟨rfl, rfl⟩
      · exact e5 x y hs hp
      · have h1 : ¬ s.1 * s.2 < x * y := fun q => hc ⟨q, hp⟩
        have h2 := hw _ _ e1
        by_cases h3 : x * y = s.1 * s.2
        · exact .inr ⟨h3, h2⟩
        · exact .inl (by omega)
/-- One more, no narrower than all before: also if it is as large. -/
theorem bst_up {p : Nat → Nat → Bool} {seen : Nat → Nat → Prop} {s : Nat × Nat} {a b : Nat} (ha : 1 ≤ a) (hb : 1 ≤ b) (hw : ∀ x y, seen x y → x ≤ a) (h : Bst p seen s) :
    (s.1 * s.2 ≤ a * b ∧ p a b = true → Bst p (fun x y => seen x y ∨ (x = a ∧ y = b)) (a, b)) ∧ (¬ (s.1 * s.2 ≤ a * b ∧ p a b = true) → Bst p (fun x y => seen x y ∨ (x = a ∧ y = b)) s) := by
  have hab : 0 < a * b := Nat.mul_pos (by omega) (by omega)
  constructor
  · intro hc
    refine .inr ⟨.inr ⟨rfl, rfl⟩, ha, hb, hc.2, fun x y hs hp => ?_⟩
    rcases hs with hs | ⟨rfl, rfl⟩
    · have hx := hw x y hs
      rcases h with ⟨_, h⟩ | ⟨_, _, _, _, h⟩
      · rw [h x y hs] at hp; cases hp
      · have := h x y hs hp
        by_cases h3 : x * y = a * b
        · exact .inr ⟨h3, hx⟩
        · exact .inl (by show x * y < a * b; omega)
    · exact .inr ⟨rfl, Nat.le_refl _⟩
  · intro hc
    rcases h with ⟨e, h⟩ | ⟨e1, e2, e3, e4, e5⟩
    · refine .inl ⟨e, fun x y hs => ?_⟩
      rcases hs with hs | ⟨rfl, rfl⟩
      · exact h x y hs
      · cases hp : p x y
        · rfl
        · exact absurd ⟨by rw [e]; exact Nat.zero_le _, hp⟩ hc
    · refine .inr ⟨.inl e1, e2, e3, e4, fun x y hs hp => ?_⟩
      rcases hs with hs | ⟨rfl, rfl⟩
      · exact e5 x y hs hp
      · have h1 : ¬ s.1 * s.2 ≤ x * y := fun q => hc ⟨q, hp⟩
        exact .inl (by omega)
theorem bst_in {p : Nat → Nat → Bool} {a : Nat} (ha : 1 ≤ a) {s : Nat × Nat} (h : Bst p (fun x y => a < x ∧ x ≤ 6 ∧ 1 ≤ y ∧ y ≤ 6) s) : ∀ k, k ≤ 6 → Bst p (fun x y => (a < x ∧ x ≤ 6 ∧ 1 ≤ y ∧ y ≤ 6) ∨ (x = a ∧ 1 ≤ y ∧ y ≤ k)) (lcIn p a s k)
  | 0, _ => bst_ext h (fun x y q => .inl q) (fun x y q _ => by
      rcases q with q | q
      · exact q
      · omega)
  | k + 1, hk => by
    have ih := bst_in ha h k (by omega)
    have := bst_down (a := a) (b := k + 1) ha (by omega) (fun x y q => by rcases q with q | q <;> omega) ih
    exact bst_ext this (fun x y q => by omega) (fun x y q _ => by omega)
theorem bst_out (p : Nat → Nat → Bool) : ∀ k, k ≤ 6 → Bst p (fun x y => 6 - k < x ∧ x ≤ 6 ∧ 1 ≤ y ∧ y ≤ 6) (lcOut p k)
  | 0, _ => .inl ⟨rfl, fun a b h => by omega⟩
  | k + 1, hk => by
    have ih := bst_out p k (by omega)
    have := bst_in (a := 6 - k) (by omega) ih 6 (by omega)
    exact bst_ext this (fun x y q => by omega) (fun x y q _ => by omega)
/-- What fits nowhere is too wide or too high. -/
theorem lc_fit {n : Nat} {f : Nat → ByteArray} {q : Int} {a b : Nat} (hC : 1 ≤ (f 0).size) (h : lcP n f q a b = true) : a ≤ (f 0).size ∧ b ≤ n := by
  unfold lcP at h
  have h1 := of_decide_eq_true h
  have hne : plL n f a b q ≠ [] := fun e => by rw [e] at h1; simp at h1
  unfold plL at hne
  have : ¬ ∀ t, t < n * (f 0).size → tv (FitP n (f 0).size (qf f) a b q t) = false := fun e => hne (flt_nil.2 e)
  apply Classical.byContradiction
  intro hno
  refine this fun t ht => tv_no fun e => ?_
  obtain ⟨e1, e2, _⟩ := e
  have h0 : (0 : Int) ≤ ((t / (f 0).size : Nat) : Int) := Int.natCast_nonneg _
  have h2 : (0 : Int) ≤ ((t % (f 0).size : Nat) : Int) := Int.natCast_nonneg _
  omega
theorem lc_none {n : Nat} {f : Nat → ByteArray} {q : Int} {a b : Nat} : lcP n f q a b = false ↔ ∀ t, t < n * (f 0).size → tv (FitP n (f 0).size (qf f) a b q t) = false := by
  unfold lcP plL
  rw [← flt_nil]
  constructor
  · intro h
    have h1 := of_decide_eq_false h
    exact List.eq_nil_of_length_eq_zero (by omega)
  · intro h
    rw [h]
    rfl
theorem lc_all {n : Nat} {f : Nat → ByteArray} {q : Int} {s : Nat × Nat} (hC : 1 ≤ (f 0).size ∧ (f 0).size ≤ 6) (hn : n ≤ 6) (h : Bst (lcP n f q) (fun x y => 1 ≤ x ∧ x ≤ (f 0).size ∧ 1 ≤ y ∧ y ≤ n) s) : s = lcOut (lcP n f q) 6 := by
  refine bst_eq (bst_ext h (seen' := fun x y => 6 - 6 < x ∧ x ≤ 6 ∧ 1 ≤ y ∧ y ≤ 6) (fun x y q => by omega) (fun x y q hp => ?_)) (bst_out _ 6 (Nat.le_refl _))
  have := lc_fit hC.1 hp
  omega
set_option maxRecDepth 100000 in
set_option maxHeartbeats 1000000 in
theorem isome (n C : Nat) (s : ByteArray) (g0 g1 g2 g3 : Nat) (W H : Nat) (Q d : Int) (B : Nat → Bool) (r : Bool) (hs : s.size ≤ 36) (hB : ∀ t, t < s.size → ∀ w, Calls Try.prog 99 #[hdV n C s g0 g1 g2 g3, cuV W H Q d, .int .i64 (t : Int)] w fun e w' => e = .returned (.tuple #[.int .u64 (foN C W H t : Int), .bool (B t)]) ∧ Below w.heap.size w w')
    (hN : (∀ t, t < s.size → B t = false) → r = false) (hY : ∀ t, t < s.size → B t = true → r = true) (w : World) :
    Calls Try.prog 73 #[hdV n C s g0 g1 g2 g3, cuV W H Q d] w fun e w' => e = .returned (.bool r) ∧ Below w.heap.size w w' := by
  have BX := Lib.hid (two_new w (hdC n C s g0 g1 g2 g3) (.cells #[.int .i64 W, .int .i64 H, .int .i64 Q, .int .i64 d] 42))
  have IS := Lib.hid (fun w => isize n C s g0 g1 g2 g3 w)
  have CB := Lib.hid hB
  have HN := Lib.hid hN
  have HY := Lib.hid hY
  clear hB hN hY
  unfold cuV at CB ⊢
  go_enter Try.func73, Try.ntmps73
  go_upto_region 1 with fail
  generalize hw0 : (w.alloc _).alloc _ = w0 at BX ⊢
  clear hw0
  obtain ⟨k0, k1, k2, k3, k4, k5, k6⟩ := blk7 BX.out.hid
  go_wp2_with fail
  refine (IS.out _).mono ?_
  rintro e w1 ⟨rfl, b1⟩
  have B1 : Hid (Two w w1 (hdC n C s g0 g1 g2 g3) (.cells #[.int .i64 W, .int .i64 H, .int .i64 Q, .int .i64 d] 42)) := Lib.hid ⟨below_then BX.out.bel b1, blk_keep b1 BX.out.hid, blk_keep b1 BX.out.cut⟩
  clear k0 k1 k2 k3 k4 k5 k6 b1 BX IS
  go_wp2_with fail
  go_loopw [10] (fun x wr => ∃ t : Nat, t ≤ s.size ∧ x = .int .i64 (t : Int) ∧ Hid (Two w wr (hdC n C s g0 g1 g2 g3) (.cells #[.int .i64 W, .int .i64 H, .int .i64 Q, .int .i64 d] 42)) ∧ Hid (∀ j, j < t → B j = false)) (fun x _ => s.size - (intOf x).toNat)
  case atStart => exact ⟨0, Nat.zero_le _, rfl, B1, Lib.hid fun j hj => by omega⟩
  case round =>
    obtain ⟨t, ht, rfl, HX, HF⟩ := hrel
    have f0 : (0 : Int) ≤ (t : Int) := Int.natCast_nonneg _
    by_cases hlt : t < s.size
    · have f1 : (t : Int) < (s.size : Int) := by omega
      have ht1 : t + 1 ≤ s.size := by omega
      obtain ⟨k0, k1, k2, k3, k4, k5, k6⟩ := blk7 HX.out.hid
      obtain ⟨m0, m1, m2, m3⟩ := blk4 HX.out.cut
      have CT := Lib.hid (fun w => CB.out t hlt w)
      have HYt := Lib.hid (HY.out t hlt)
      have HFt : Hid (B t = false → ∀ j, j < t + 1 → B j = false) := Lib.hid fun h j hj => by
        by_cases e : j = t
        · subst e; exact h
        · exact HF.out j (by omega)
      generalize B t = bt at CT HYt HFt
      generalize foN C W H t = fo at CT
      clear ht
      go_wp2_with fail
      refine (CT.out _).mono ?_
      rintro e w2 ⟨rfl, b2⟩
      have HX2 : Hid (Two w w2 (hdC n C s g0 g1 g2 g3) (.cells #[.int .i64 W, .int .i64 H, .int .i64 Q, .int .i64 d] 42)) := Lib.hid ⟨below_then HX.out.bel b2, blk_keep b2 HX.out.hid, blk_keep b2 HX.out.cut⟩
      clear k0 k1 k2 k3 k4 k5 k6 m0 m1 m2 m3 b2 HX CT
      cases bt
      · have HD := Lib.hid (HFt.out (by first | rfl | trivial))
        go_wp2_with fail
        go_roundw
        case rel => exact ⟨t + 1, ht1, by go_num, HX2, HD⟩
        case measure => simp [intOf]; omega
      · have HR := Lib.hid (HYt.out (by first | rfl | trivial))
        go_wp2_with fail
        go_ret
        exact ⟨Ba.ret_bool HR.out.symm, HX2.out.bel⟩
    · obtain rfl : t = s.size := by omega
      have HR := Lib.hid (HN.out HF.out)
      go_wp2_with fail
      go_ret
      exact ⟨Ba.ret_bool HR.out.symm, HX.out.bel⟩
end Go.Proofs.Ytongfgikkcieaaa.Tc
