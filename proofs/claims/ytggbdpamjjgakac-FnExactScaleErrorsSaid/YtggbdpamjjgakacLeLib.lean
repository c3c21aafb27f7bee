/- Lengths: whether numbers are lengths (spec and program); sums; new slices of numbers. -/
import Derived.Test.YtggbdpamjjgakacGaLib
import Derived.Test.YtggbdpamjjgakacAwLib
import Derived.Test.YtggbdpamjjgakacIsLib
import Derived.Test.YtggbdpamjjgakacFgLib
import Derived.Test.YtggbdpamjjgakacGmLib
import Derived.OwnWalk
import Derived.IntWalk
namespace Go.Proofs.Ytggbdpamjjgakac.Le
open Go.RowKit Ft Is Ge Qb Fg Gm

/-- Numbers that are lengths of edges. -/
def LenOk (n : Nat) (f : Nat → Int) : Prop := (1 ≤ n ∧ n ≤ 20) ∧ ∀ i, i < n → inB (f i) 1 10000 = true
theorem len_at {n : Nat} {f : Nat → Int} (h : LenOk n f) {i : Nat} (hi : i < n) : 1 ≤ f i ∧ f i ≤ 10000 := by simpa [inB] using h.2 i hi
/-- A new slice of n numbers. -/
def ColAt (n : Nat) (f : Nat → Int) (w : World) (e : Ending) (w' : World) : Prop :=
  ∃ A cap, e = .returned (.slice A n cap) ∧ Hid (Own w' w.heap.size A n f) ∧ Below w.heap.size w w'
theorem col_of_row {n : Nat} {f : Nat → Int} {w w' : World} {v : Value} (h : w'.ownsRow w.heap.size 2 1 v n (upto f n)) (hb : Below w.heap.size w w') : ColAt n f w (.returned v) w' := by
  rcases h.2 with ⟨rfl, rfl⟩ | ⟨g, cap, cur, rfl, hbg, hh, _⟩
  · exact ⟨none, 0, rfl, Lib.hid fun h => absurd h (by omega), hb⟩
  · exact ⟨_, cap, rfl, Lib.hid fun _ => ⟨g, 0, rfl, hbg, lt_of_heap hh, fun i hi => by rw [Nat.zero_add]; exact (h.cellAt i (by omega)).trans (upto_get f hi), fun i => blk_free hh i⟩, hb⟩
/-- A new list of numbers, and a code. -/
def PairAt (n : Nat) (d : Nat → Int) (c : Int) (w : World) (e : Ending) (w' : World) : Prop :=
  ∃ A cap, e = .returned (.tuple #[.slice A n cap, .int .i64 c]) ∧ Hid (Own w' w.heap.size A n d) ∧ Below w.heap.size w w'
theorem own_later {w w1 w' : World} {A : Option Addr} {n : Nat} {f : Nat → Int} (h : Own w' w1.heap.size A n f) (hs : w.heap.size ≤ w1.heap.size) : Own w' w.heap.size A n f := fun hp => by
  obtain ⟨b, off, e, h1, h2, h3, h4⟩ := h hp
  exact ⟨b, off, e, by omega, h2, h3, h4⟩

theorem spec_len (A : Option Addr) (n c : Nat) (f : Nat → Int) (hn : n ≤ 1048576) (w : World) (hA : Nums w w.heap.size A n f) :
    Calls Try.prog 39 #[.slice A n c] w fun e w' => e = .returned (.bool (tv (LenOk n f))) ∧ w = w' := by
  have HA := Lib.hid hA
  have HN : Hid (∀ k, k < n → inB (f k) 1 10000 = false → tv (LenOk n f) = false) := Lib.hid fun k hk h => tv_no fun o => by rw [o.2 k hk] at h; cases h
  have HY : Hid ((∀ k, k < n → inB (f k) 1 10000 = true) → tv (LenOk n f) = inB (n : Int) 1 20) := Lib.hid fun h => by
    cases hq : inB (n : Int) 1 20
    · exact tv_no fun o => by simp [inB] at hq; have := o.1; omega
    · exact tv_yes ⟨by simp [inB] at hq; omega, h⟩
  have C := Lib.hid (fun w => in_any (n : Int) 1 20 w)
  generalize tv (LenOk n f) = r at HN HY ⊢
  generalize inB (n : Int) 1 20 = q at HY C
  clear hA
  go_enter Try.func39, Try.ntmps39
  go_wp2_with fail
  go_loop [3] (fun i => ∃ k : Nat, k ≤ n ∧ i = .int .i64 k ∧ Hid (∀ j, j < k → inB (f j) 1 10000 = true)) (fun i => n - (intOf i).toNat)
  case atStart => exact ⟨0, Nat.zero_le _, rfl, Lib.hid fun j hj => by omega⟩
  case round =>
    obtain ⟨k, hk, rfl, hall⟩ := hrel
    have e0 : (0 : Int) ≤ (k : Int) := Int.natCast_nonneg _
    by_cases hlt : k < n
    · obtain ⟨b, off, rfl, hb, hc⟩ := HA.out (by omega)
      have x0 := hc k hlt
      have CI := Lib.hid (fun w => in_any (f k) 1 10000 w)
      have HNk := Lib.hid (HN.out k hlt)
      have HS := Lib.hid (step_all (p := fun j => inB (f j) 1 10000) hall.out (k := k))
      generalize inB (f k) 1 10000 = z at CI HNk HS
      generalize f k = u at x0 CI
      have e1 : (k : Int) < (n : Int) := by omega
      clear hc
      go_wp2_with fail
      refine (CI.out _).mono ?_
      rintro e w' ⟨rfl, rfl⟩
      cases z
      · have HF := Lib.hid (HNk.out rfl)
        go_wp2_with fail
        go_ret
        exact ⟨by rw [HF.out]; rfl, rfl⟩
      · have HD := Lib.hid (HS.out rfl)
        go_wp2_with fail
        go_round
        case rel => exact ⟨k + 1, by omega, by go_num, HD⟩
        case measure => simp [intOf]; omega
    · obtain rfl : k = n := by omega
      have HF := Lib.hid (HY.out hall.out)
      go_wp2_with fail
      refine (C.out _).mono ?_
      rintro e w' ⟨rfl, rfl⟩
      go_wp2_with fail
      go_ret
      exact ⟨by rw [HF.out]; rfl, rfl⟩
/-- Whether each of some lists has lengths. -/
theorem are_any (g K cp : Nat) (A : Nat → Option Addr) (n c : Nat → Nat) (f : Nat → Nat → Int) (hK : K ≤ 2) (w : World) (hn : ∀ j, j < K → n j ≤ 1048576) (hg : ∀ j, j < K → w.cell? ⟨g, j, none⟩ = some (.slice (A j) (n j) (c j))) (hA : ∀ j, j < K → Nums w w.heap.size (A j) (n j) (f j)) :
    Calls Try.prog 42 #[.slice (some ⟨g, 0, none⟩) K cp] w fun e w' => e = .returned (.bool (tv (∀ j, j < K → LenOk (n j) (f j)))) ∧ w = w' := by
  have HA := Lib.hid hA
  have HG := Lib.hid hg
  have H1 : Hid (∀ j, j < K → ¬ (1 ≤ n j ∧ n j ≤ 20) → tv (∀ j, j < K → LenOk (n j) (f j)) = false) := Lib.hid fun j hj h => tv_no fun o => h (o j hj).1
  have H2 : Hid (∀ j, j < K → ∀ k, k < n j → inB (f j k) 1 10000 = false → tv (∀ j, j < K → LenOk (n j) (f j)) = false) := Lib.hid fun j hj k hk h => tv_no fun o => by rw [(o j hj).2 k hk] at h; cases h
  have H3 : Hid ((∀ j, j < K → LenOk (n j) (f j)) → tv (∀ j, j < K → LenOk (n j) (f j)) = true) := Lib.hid fun h => tv_yes h
  generalize tv (∀ j, j < K → LenOk (n j) (f j)) = r at H1 H2 H3 ⊢
  clear hA hg
  go_enter Try.func42, Try.ntmps42
  go_wp2_with fail
  go_loop [4, 7] (fun _ i => ∃ j : Nat, j ≤ K ∧ i = .int .i64 j ∧ Hid (∀ q, q < j → LenOk (n q) (f q))) (fun _ i => K - (intOf i).toNat)
  case atStart => exact ⟨0, Nat.zero_le _, rfl, Lib.hid fun j hj => by omega⟩
  case round =>
    obtain ⟨j, hj, rfl, hall⟩ := hrel
    have e0 : (0 : Int) ≤ (j : Int) := Int.natCast_nonneg _
    by_cases hlt : j < K
    · have x0 := HG.out j hlt
      have HAj := Lib.hid (HA.out j hlt)
      have H1j := Lib.hid (H1.out j hlt)
      have H2j := Lib.hid (H2.out j hlt)
      have hnj := hn j hlt
      have HS : Hid (LenOk (n j) (f j) → ∀ q, q < j + 1 → LenOk (n q) (f q)) := Lib.hid fun h q hq => by
        by_cases e : q = j
        · rw [e]; exact h
        · exact hall.out q (by omega)
      generalize n j = m at x0 HAj H1j H2j hnj HS
      generalize A j = Aj at x0 HAj
      generalize c j = cj at x0
      generalize f j = fj at HAj H2j HS
      have e1 : (j : Int) < (K : Int) := by omega
      by_cases hm1 : m < 1
      · have HF := Lib.hid (H1j.out (by omega))
        go_wp2_with fail
        go_ret
        exact ⟨by rw [HF.out]; rfl, rfl⟩
      by_cases hm2 : 20 < m
      · have HF := Lib.hid (H1j.out (by omega))
        go_wp2_with fail
        go_ret
        exact ⟨by rw [HF.out]; rfl, rfl⟩
      have CA := Lib.hid (fun w h => Ly.are_any 1 10000 Aj m cj fj hnj w h)
      have HT1 : Hid (tv (Ly.Al 1 10000 m fj) = true → ∀ q, q < j + 1 → LenOk (n q) (f q)) := Lib.hid fun h => HS.out ⟨⟨by omega, by omega⟩, tv_iff.1 h⟩
      have HT0 : Hid (tv (Ly.Al 1 10000 m fj) = false → r = false) := Lib.hid fun h => by
        refine Classical.byContradiction fun q => ?_
        have hq : Ly.Al 1 10000 m fj := fun k hk => by
          cases e : inB (fj k) 1 10000
          · exact absurd (H2j.out k hk e) q
          · rfl
        rw [tv_yes hq] at h
        cases h
      generalize tv (Ly.Al 1 10000 m fj) = z at CA HT1 HT0
      go_wp2_with fail
      refine (CA.out _ HAj.out).mono ?_
      rintro e w' ⟨rfl, rfl⟩
      cases z
      · have HF := Lib.hid (HT0.out rfl)
        go_wp2_with fail
        go_ret
        exact ⟨by rw [HF.out]; rfl, rfl⟩
      · have HD := Lib.hid (HT1.out rfl)
        go_wp2_with fail
        go_round
        case rel => exact ⟨j + 1, by omega, by go_num, HD⟩
        case measure => simp [intOf]; omega
    · obtain rfl : j = K := by omega
      have HF := Lib.hid (H3.out hall.out)
      go_wp2_with fail
      go_ret
      exact ⟨by rw [HF.out]; rfl, rfl⟩
end Go.Proofs.Ytggbdpamjjgakac.Le
