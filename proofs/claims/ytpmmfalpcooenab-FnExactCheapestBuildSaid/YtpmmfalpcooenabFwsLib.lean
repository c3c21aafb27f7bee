/- The fewest layers between two limits: the spec's. -/
import Derived.Test.YtpmmfalpcooenabFlmLib
namespace Go.Proofs.Ytpmmfalpcooenab.Fe
open Go.RowKit Go.Maps Ft Is Ge Qb Ly Kn Kf Bh
open Un (PairAt pair_no code_spec codeL code_ok)

theorem lay_mono {n : Nat} {x : Nat → Int} (h : LyP n x) {a b : Nat} (hb : b < n) (hab : a < b) : x a < x b := by
  obtain ⟨k, rfl⟩ : ∃ k, b = a + k + 1 := ⟨b - a - 1, by omega⟩
  exact lay_lt h k a hb
theorem lay_inj {n : Nat} {x : Nat → Int} (h : LyP n x) {a b : Nat} (ha : a < n) (hb : b < n) (e : x a = x b) : a = b := by
  rcases Nat.lt_trichotomy a b with q | q | q
  · have := lay_mono h hb q; omega
  · exact q
  · have := lay_mono h ha q; omega
theorem gt_at {n : Nat} {x : Nat → Int} (h : LyP n x) : ∀ (l k : List Nat) (i : Nat), l.length = k.length → (∀ a ∈ l, a < n) → (∀ a ∈ k, a < n) → i < l.length → (∀ q, q < i → bl x l q = bl x k q) → bl x l i ≠ bl x k i → (¬ Kn.ge k l ↔ bl x k i < bl x l i)
  | [], _, _, _, _, _, hi, _, _ => absurd hi (Nat.not_lt_zero _)
  | _ :: _, [], _, hl, _, _, _, _, _ => by cases hl
  | a :: r, b :: s, 0, _, hl, hk, _, _, hne => by
    have ha := hl a (by simp)
    have hb := hk b (by simp)
    have hne : x a ≠ x b := hne
    show ¬ (a < b ∨ (b = a ∧ Kn.ge s r)) ↔ x b < x a
    rcases Nat.lt_trichotomy a b with q | q | q
    · have := lay_mono h hb q
      exact ⟨fun g => absurd (Or.inl q) g, fun g => by omega⟩
    · exact absurd (by rw [q]) hne
    · have := lay_mono h ha q
      exact ⟨fun _ => this, fun _ g => by rcases g with g | ⟨g, _⟩ <;> omega⟩
  | a :: r, b :: s, i + 1, hlen, hl, hk, hi, heq, hne => by
    have e : a = b := lay_inj h (hl a (by simp)) (hk b (by simp)) (heq 0 (by omega))
    have ih := gt_at h r s i (by simpa using hlen) (fun c hc => hl c (by simp [hc])) (fun c hc => hk c (by simp [hc])) (by simpa using hi) (fun q hq => heq (q + 1) (by omega)) hne
    show ¬ (a < b ∨ (b = a ∧ Kn.ge s r)) ↔ _
    refine Iff.trans ⟨fun g q => g (Or.inr ⟨e.symm, q⟩), fun g q => ?_⟩ ih
    rcases q with q | ⟨_, q⟩
    · omega
    · exact g q
theorem gt_none {n : Nat} {x : Nat → Int} (h : LyP n x) : ∀ (l k : List Nat), l.length = k.length → (∀ a ∈ l, a < n) → (∀ a ∈ k, a < n) → (∀ q, q < l.length → bl x l q = bl x k q) → Kn.ge k l
  | [], k, _, _, _, _ => by cases k <;> trivial
  | _ :: _, [], hl, _, _, _ => by cases hl
  | a :: r, b :: s, hlen, hl, hk, heq => by
    have e : a = b := lay_inj h (hl a (by simp)) (hk b (by simp)) (heq 0 (by simp))
    exact Or.inr ⟨e.symm, gt_none h r s (by simpa using hlen) (fun c hc => hl c (by simp [hc])) (fun c hc => hk c (by simp [hc])) (fun q hq => heq (q + 1) (by simpa using hq))⟩
/-- Whether a build is greater than one with as many layers. -/
noncomputable def grB (l k : List Nat) : Bool := open Classical in decide (¬ Kn.ge k l)
set_option maxRecDepth 100000 in
theorem greater_any {n : Nat} {x : Nat → Int} (hL : LyP n x) (A1 A2 : Option Addr) (c1 c2 : Nat) (l k : List Nat) (hlen : l.length = k.length) (hl : ∀ a ∈ l, a < n) (hk : ∀ a ∈ k, a < n) (hm : l.length ≤ 1000) (w : World)
    (h1 : Nums w w.heap.size A1 l.length (bl x l)) (h2 : Nums w w.heap.size A2 l.length (bl x k)) :
    Calls Try.prog 118 #[.slice A1 l.length c1, .slice A2 l.length c2] w fun e w' => e = .returned (.bool (grB l k)) ∧ Below w.heap.size w w' := by
  have HG : Hid (∀ i, i < l.length → (∀ q, q < i → bl x l q = bl x k q) → bl x l i ≠ bl x k i → grB l k = decide (bl x k i < bl x l i)) := Lib.hid fun i hi he hne => by
    unfold grB
    classical
    exact decide_eq_decide.2 (gt_at hL l k i hlen hl hk hi he hne)
  have HN : Hid ((∀ q, q < l.length → bl x l q = bl x k q) → grB l k = false) := Lib.hid fun he => by
    unfold grB
    classical
    exact decide_eq_false (fun g => g (gt_none hL l k hlen hl hk he))
  have H1 := Lib.hid h1
  have H2 := Lib.hid h2
  clear h1 h2 hl hk hlen
  generalize grB l k = r at HG HN ⊢
  generalize l.length = m at *
  generalize bl x l = d1 at *
  generalize bl x k = d2 at *
  go_enter Try.func118, Try.ntmps118
  go_wp2_with fail
  go_loopw [5] (fun i wr => ∃ q : Nat, q ≤ m ∧ i = .int .i64 (q : Int) ∧ Hid (Below w.heap.size w wr) ∧ Hid (∀ p, p < q → d1 p = d2 p)) (fun i _ => m - (intOf i).toNat)
  case atStart => exact ⟨0, Nat.zero_le _, rfl, Lib.hid (Below.refl _ _), Lib.hid fun p hp => absurd hp (Nat.not_lt_zero _)⟩
  case round =>
    obtain ⟨q, hq, rfl, HB, HE⟩ := hrel
    by_cases hlt : q < m
    · obtain ⟨b1, f1, rfl, _, k1⟩ := (H1.out.below HB.out (Nat.le_refl _)) (by omega)
      obtain ⟨b2, f2, rfl, _, k2⟩ := (H2.out.below HB.out (Nat.le_refl _)) (by omega)
      have x0 := k1 q hlt
      have y0 := k2 q hlt
      have e0 : (0 : Int) ≤ (q : Int) := Int.natCast_nonneg _
      have e1 : (q : Int) < (m : Int) := by omega
      have HGq := Lib.hid (HG.out q hlt HE.out)
      have HEq : Hid (d1 q = d2 q → ∀ p, p < q + 1 → d1 p = d2 p) := Lib.hid fun h p hp => by
        by_cases e : p = q
        · rw [e]; exact h
        · exact HE.out p (by omega)
      generalize d1 q = u at x0 HGq HEq
      generalize d2 q = v at y0 HGq HEq
      clear k1 k2
      by_cases huv : u = v
      · have HX := Lib.hid (HEq.out huv)
        have g1 : (u != v) = false := by simpa using huv
        go_upto_region 4 with fail
        go_quiet (fail)
        have HB2 := Lib.hid (below_drewN HB.out nq)
        generalize wr.drewN nq = wq at HB2 ⊢
        go_wp2_with fail
        go_roundw
        case rel => exact ⟨q + 1, by omega, by go_num, HB2, HX⟩
        case measure => simp [intOf]; omega
      · have HX := Lib.hid (HGq.out huv)
        have g1 : (u != v) = true := by simpa using huv
        go_upto_region 4 with fail
        go_quiet (fail)
        have HB2 := Lib.hid (below_drewN HB.out nq)
        have x2 : (wr.drewN nq).cell? ⟨b1, f1 + q, none⟩ = some (.int .i64 u) := x0
        have y2 : (wr.drewN nq).cell? ⟨b2, f2 + q, none⟩ = some (.int .i64 v) := y0
        generalize wr.drewN nq = wq at HB2 x2 y2 ⊢
        go_upto_region 5 with fail
        go_quiet (fail)
        have HB3 := Lib.hid (below_drewN HB2.out nq)
        generalize wq.drewN nq = wz at HB3 ⊢
        go_wp2_with fail
        go_ret
        exact ⟨by rw [HX.out]; rfl, HB3.out⟩
    · obtain rfl : q = m := by omega
      have HX := Lib.hid (HN.out HE.out)
      go_wp2_with fail
      go_ret
      exact ⟨by rw [HX.out]; rfl, HB.out⟩
end Go.Proofs.Ytpmmfalpcooenab.Fe
