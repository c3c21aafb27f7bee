/- The spec's table of the fewest layers. -/
import Derived.Test.YtpmmfalpcooenabLyLib
import Derived.OwnWalk
import Derived.IntWalk
import Derived.Deep.AppendLies
namespace Go.Proofs.Ytpmmfalpcooenab.Kf
open Go.RowKit Ft Is Ge Qb Ly Kn

/-- Each layer counts as one. -/
abbrev w1 : Nat → Int := fun _ => 1
theorem lay1 {n : Nat} {d : Nat → Int} (h : LyP n d) : Lay d w1 n := ⟨fun i hi => (lay_of h i hi).1, fun _ _ => Int.le_refl _⟩
/-- The table. -/
noncomputable def FT (d : Nat → Int) (n : Nat) (j : Nat) : Int := F d w1 n (j : Int)
theorem ft_bd {n : Nat} {d : Nat → Int} (h : LyP n d) {z : Int} (hz : 0 ≤ z) : -1 ≤ F d w1 n z ∧ F d w1 n z ≤ z := by
  have := F_bd (lay1 h) (W := 1) (fun i hi => by have := (lay_of h i hi).1; show (1 : Int) ≤ 1 * d i; omega) (by omega) hz
  omega
theorem gt_bd {n : Nat} {d : Nat → Int} (h : LyP n d) {z : Int} (hz : 0 ≤ z) {i : Nat} (hi : i ≤ n) : -1 ≤ G d w1 n z i ∧ G d w1 n z i ≤ z := by
  have := G_bd (lay1 h) (W := 1) (fun i hi => by have := (lay_of h i hi).1; show (1 : Int) ≤ 1 * d i; omega) (by omega) hz hi
  omega
/-- A new row of numbers. -/
def RowAt (n : Nat) (d : Nat → Int) (w : World) (e : Ending) (w' : World) : Prop := ∃ A cap, e = .returned (.slice A n cap) ∧ Hid (Own w' w.heap.size A n d) ∧ Below w.heap.size w w'
theorem row_own {n : Nat} {d : Nat → Int} {w w' : World} {v : Value} (h : w'.ownsRow w.heap.size 2 1 v n (upto d n)) (hb : Below w.heap.size w w') : RowAt n d w (.returned v) w' := by
  rcases h.2 with ⟨rfl, h0⟩ | ⟨g, cap, cur, rfl, hbg, hh, _⟩
  · exact ⟨none, 0, by rw [h0], Lib.hid fun h => absurd h (by omega), hb⟩
  · exact ⟨_, cap, rfl, Lib.hid fun _ => ⟨g, 0, rfl, hbg, lt_of_heap hh, fun i hi => by
      rw [Nat.zero_add]
      exact (h.cellAt i (by omega)).trans (upto_get d hi), fun i => Ge.blk_free hh i⟩, hb⟩

set_option maxRecDepth 100000 in
set_option maxHeartbeats 4000000 in
theorem few_any (A : Option Addr) (n c : Nat) (d : Nat → Int) (S : Nat) (hL : LyP n d) (hS : S ≤ 1000) (w : World) (hA : Nums w w.heap.size A n d) :
    Calls Try.prog 73 #[.slice A n c, .int .i64 (S : Int)] w (RowAt (S + 1) (FT d n) w) := by
  obtain ⟨i0, hi0, hz0, hz1, hz2⟩ := info_parts info_int
  have HI := Lib.hid (And.intro hi0 (And.intro hz0 (And.intro hz1 hz2)))
  have HA := Lib.hid hA
  have hn8 := hL.1
  have HD : Hid (∀ i, i < n → 1 ≤ d i ∧ d i ≤ 200) := Lib.hid (lay_of hL)
  have HF0 : Hid (FT d n 0 = 0) := Lib.hid (F_zero (lay1 hL))
  have HFb : Hid (∀ p : Nat, p ≤ 1000 → -1 ≤ FT d n p ∧ FT d n p ≤ 1000) := Lib.hid fun p hp => by have := ft_bd hL (z := (p : Int)) (by omega); unfold FT; omega
  have HG0 : Hid (∀ k : Nat, G d w1 n ((k + 1 : Nat) : Int) 0 = -1) := Lib.hid fun k => rfl
  have HGm : Hid (∀ k : Nat, FT d n (k + 1) = G d w1 n ((k + 1 : Nat) : Int) n) := Lib.hid fun k => F_step (lay1 hL) (by omega)
  have HGb : Hid (∀ k : Nat, k ≤ 1000 → ∀ j, j ≤ n → -1 ≤ G d w1 n (k : Int) j ∧ G d w1 n (k : Int) j ≤ 1000) := Lib.hid fun k hk j hj => by have := gt_bd hL (z := (k : Int)) (by omega) hj; omega
  have HGn : Hid (∀ k j : Nat, j < n → ((k + 1 : Nat) : Int) < d j → G d w1 n ((k + 1 : Nat) : Int) (j + 1) = G d w1 n ((k + 1 : Nat) : Int) j) := Lib.hid fun k j hj h => by
    rw [G_step (lay1 hL) hj, F_neg (lay1 hL) (by omega), if_neg (by omega)]
  have HGy : Hid (∀ k j p : Nat, j < n → ((k + 1 : Nat) : Int) - d j = (p : Int) → G d w1 n ((k + 1 : Nat) : Int) (j + 1) = if 0 ≤ FT d n p ∧ (G d w1 n ((k + 1 : Nat) : Int) j < 0 ∨ FT d n p + 1 < G d w1 n ((k + 1 : Nat) : Int) j) then FT d n p + 1 else G d w1 n ((k + 1 : Nat) : Int) j) := Lib.hid fun k j p hj h => by
    rw [G_step (lay1 hL) hj, h]; rfl
  have HR : Hid (∀ w' v, w'.ownsRow w.heap.size 2 1 v (S + 1) (upto (FT d n) (S + 1)) → Below w.heap.size w w' → RowAt (S + 1) (FT d n) w (.returned v) w') := Lib.hid fun w' v h hb => row_own h hb
  have HU0 : Hid (upto (FT d n) (0 + 1) = [.int .i64 0]) := Lib.hid (by rw [upto_snoc, HF0.out]; rfl)
  generalize FT d n = T at HF0 HFb HGm HGy HR HU0 ⊢
  clear hi0 hz0 hz1 hz2 hA hL
  go_enter Try.func73, Try.ntmps73
  go_wp2_with fail
  go_loopw [5, 6, 7, 8] (fun o i _ _ wr => ∃ (k : Nat) (v : Value), k ≤ S ∧ v = o ∧ i = .int .i64 ((k + 1 : Nat) : Int) ∧ Below w.heap.size w wr ∧ Hid (wr.ownsRow w.heap.size 2 1 v (k + 1) (upto T (k + 1)))) (fun _ i _ _ _ => S + 1 - (intOf i).toNat)
  case atStart => exact ⟨0, _, Nat.zero_le _, rfl, rfl, below_box _ _, Lib.hid (by rw [HU0.out]; exact World.ownsRow_lit w #[.int .i64 0] 1 (Nat.le_refl _) (by simp [maxLen]) (by simp))⟩
  case round =>
    obtain ⟨k, v, hk, rfl, rfl, hbel, hown⟩ := hrel
    have HB := Lib.hid hbel
    have hkk : ((k + 1 : Nat) : Int) = (k : Int) + 1 := by omega
    by_cases hlt : k < S
    · have hle : ((k + 1 : Nat) : Int) ≤ (S : Int) := by omega
      obtain ⟨g, cap, hv, hcell⟩ : ∃ g cap, v = .slice (some ⟨g, 0, none⟩) (k + 1) cap ∧ ∀ p, p < k + 1 → wr.cell? ⟨g, p, none⟩ = some (.int .i64 (T p)) := by
        have ho := hown.out
        rcases ho.2 with ⟨_, h0⟩ | ⟨g, cap, cur, rfl, _⟩
        · omega
        · exact ⟨g, cap, rfl, fun p hp => (ho.cellAt p (by omega)).trans (upto_get T hp)⟩
      subst hv
      have HC := Lib.hid hcell
      have HX := Lib.hid (HA.out.below hbel (Nat.le_refl _))
      have HGk0 := Lib.hid (HG0.out k)
      have HGkm := Lib.hid (HGm.out k)
      have HGkb := Lib.hid (HGb.out (k + 1) (by omega))
      have HGkn := Lib.hid (HGn.out k)
      have HGky := Lib.hid (HGy.out k)
      generalize hGG : G d w1 n ((k + 1 : Nat) : Int) = GG at HGk0 HGkm HGkb HGkn HGky
      have HGkp : Hid (∀ j p : Nat, j < n → (k : Int) + 1 - d j = (p : Int) → GG (j + 1) = if 0 ≤ T p ∧ (GG j < 0 ∨ T p + 1 < GG j) then T p + 1 else GG j) := Lib.hid fun j p hj h => HGky.out j p hj (by rw [hkk]; exact h)
      clear hGG hbel hcell HG0 HGm HGb HGn HGy HGky
      go_wp2_with fail
      go_loop [7, 8] (fun b i => ∃ j : Nat, j ≤ n ∧ i = .int .i64 j ∧ b = .int .i64 (GG j)) (fun _ i => n - (intOf i).toNat)
      case atStart => exact ⟨0, Nat.zero_le _, rfl, by rw [HGk0.out]⟩
      case round =>
        obtain ⟨j, hj, rfl, rfl⟩ := hrel
        by_cases hjn : j < n
        · obtain ⟨b, off, rfl, hb, hc⟩ := HX.out (by omega)
          have x0 := hc j hjn
          obtain ⟨d1, d2⟩ := HD.out j hjn
          obtain ⟨g1, g2⟩ := HGkb.out j (by omega)
          have e0 : (0 : Int) ≤ (j : Int) := Int.natCast_nonneg _
          have e1 : (j : Int) < (n : Int) := by omega
          have HGn := Lib.hid (HGkn.out j hjn)
          have HGy := Lib.hid (fun p => HGkp.out j p hjn)
          clear hc
          by_cases hx : ((k + 1 : Nat) : Int) < d j
          · have HE := Lib.hid (HGn.out hx)
            generalize d j = u at x0 d1 d2 hx
            go_wp2_with fail
            go_round
            case rel => exact ⟨j + 1, by omega, by go_num, by rw [HE.out]⟩
            case measure => simp [intOf]; omega
          · obtain ⟨p, hp⟩ : ∃ p : Nat, (k : Int) + 1 - d j = (p : Int) := ⟨((k : Int) + 1 - d j).toNat, by omega⟩
            have y0 := HC.out p (by omega)
            obtain ⟨f1, f2⟩ := HFb.out p (by omega)
            have HE := Lib.hid (HGy.out p hp)
            have hp0 : (0 : Int) ≤ (p : Int) := by omega
            have hp1 : (p : Int) < ((k + 1 : Nat) : Int) := by omega
            generalize d j = u at x0 d1 d2 hx hp
            generalize T p = t at y0 f1 f2 HE
            generalize hq : GG j = q at g1 g2 HE ⊢
            by_cases h1 : t < 0
            · rw [if_neg (by omega)] at HE
              go_wp2_with fail
              go_round
              case rel => exact ⟨j + 1, by omega, by go_num, by rw [HE.out]⟩
              case measure => simp [intOf]; omega
            · by_cases h2 : q < 0
              · rw [if_pos (by omega)] at HE
                go_wp2_with fail
                go_round
                case rel => exact ⟨j + 1, by omega, by go_num, by rw [HE.out]⟩
                case measure => simp [intOf]; omega
              · by_cases h3 : t + 1 < q
                · rw [if_pos (by omega)] at HE
                  go_wp2_with fail
                  go_round
                  case rel => exact ⟨j + 1, by omega, by go_num, by rw [HE.out]⟩
                  case measure => simp [intOf]; omega
                · rw [if_neg (by omega)] at HE
                  go_wp2_with fail
                  go_round
                  case rel => exact ⟨j + 1, by omega, by go_num, by rw [HE.out]⟩
                  case measure => simp [intOf]; omega
        · obtain rfl : j = n := by omega
          have hzr := HB.out.size
          have HGm : Hid (upto T (k + 1 + 1) = upto T (k + 1) ++ [.int .i64 (GG j)]) := Lib.hid (by rw [upto_snoc, HGkm.out])
          generalize GG j = q at HGm ⊢
          go_wp2_with (at_builtin; refine wpList_append_own _ rfl _ _ 22 rfl w.heap.size 2 i0 _ 1 8 Try.underlying22 HI.out.1 HI.out.2.1 HI.out.2.2.1 HI.out.2.2.2 rfl (by decide) _ _ _ rfl (hown.out.alloc _) ⟨wr.heap.size, 0, none⟩ 1 1 [.int .i64 q] rfl rfl ?c1 ?c2 ?c3 ?c4 ?c5 ?_)
          case c2 => simp [Value.oneCell']
          case c3 => unfold maxLen; omega
          case c4 => omega
          case c5 => first | omega | (simp <;> omega)
          intro v' w2 hown2 hgrow _
          have HQ := Lib.hid ((HB.out.alloc hzr _).grown hgrow (by simp; omega) fun g hg => (hown.out.lt g hg).1)
          have HO2 : Hid (w2.ownsRow w.heap.size 2 1 v' (k + 1 + 1) (upto T (k + 1 + 1))) := Lib.hid (by rw [HGm.out]; exact hown2)
          clear hown2 hgrow
          go_wp2_with fail
          go_roundw
          case rel => exact ⟨k + 1, _, by omega, rfl, by go_num, HQ.out, HO2⟩
          case measure => simp [intOf]; omega
    · obtain rfl : k = S := by omega
      have HF := Lib.hid (HR.out _ _ hown.out hbel)
      have hgt : ¬ ((k + 1 : Nat) : Int) ≤ (k : Int) := by omega
      clear hbel
      go_wp2_with fail
      go_ret
      exact HF.out
end Go.Proofs.Ytpmmfalpcooenab.Kf
