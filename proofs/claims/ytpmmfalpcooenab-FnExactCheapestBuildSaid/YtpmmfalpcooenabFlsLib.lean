/- The first build: the spec's. -/
import Derived.Test.YtpmmfalpcooenabFlpLib
import Derived.Deep.QuietTactic
import Derived.BigQuiet
namespace Go.Proofs.Ytpmmfalpcooenab.Fe
open Go.RowKit Go.Maps Ft Is Ge Qb Ly Kn Kf Bh
open Un (PairAt pair_no code_spec)

/-- What is left of a sum, layer by layer. -/
theorem chain0 {x w : Nat → Int} {n : Nat} (L : Lay x w n) : ∀ (l : List Nat) (z : Nat), B x w n 0 (z : Int) = some l →
    ∃ D : Nat → Nat, D 0 = z ∧ (∀ j, j < l.length → l.getD j 0 < n ∧ 0 < D j ∧ D j ≤ z ∧ (D j : Int) - x (l.getD j 0) = (D (j + 1) : Int) ∧ 0 ≤ F x w n (D (j + 1) : Int) ∧ F x w n (D (j + 1) : Int) + w (l.getD j 0) = F x w n (D j : Int) ∧
      ∀ q r : Nat, l.getD j 0 < q → q < n → (D j : Int) - x q = (r : Int) → 0 ≤ F x w n (r : Int) → F x w n (r : Int) + w q ≠ F x w n (D j : Int)) ∧ D l.length = 0
  | [], z, h => by
    refine ⟨fun _ => z, rfl, fun j hj => absurd hj (Nat.not_lt_zero _), ?_⟩
    by_cases q : 0 < z
    · exact absurd h (B_nil L (by omega))
    · show z = 0
      omega
  | i :: r, z, h => by
    have hz : 0 < z := by
      by_cases q : 0 < z
      · exact q
      · rw [B_low L (by omega)] at h
        split at h <;> cases h
    obtain ⟨hi, ht⟩ := B_tail L h
    obtain ⟨f1, f2, f3⟩ := head_fits L h
    have hx := L.pos i hi
    obtain ⟨p, hp⟩ : ∃ p : Nat, (z : Int) - x i = (p : Int) := ⟨((z : Int) - x i).toNat, by omega⟩
    rw [hp] at ht f2 f3
    obtain ⟨D, d0, dj, d1⟩ := chain0 L r p ht
    refine ⟨fun j => match j with | 0 => z | j + 1 => D j, rfl, fun j hj => ?_, d1⟩
    cases j with
    | zero =>
      refine ⟨hi, hz, Nat.le_refl _, by show (z : Int) - x i = (D 0 : Int); rw [d0, hp], by show 0 ≤ F x w n (D 0 : Int); rw [d0]; exact f2, by show F x w n (D 0 : Int) + w i = _; rw [d0]; exact f3, fun q r hq hqn hr h0 => ?_⟩
      have := head_last L h hqn hq (by rw [hr]; exact h0)
      rw [hr] at this
      exact this
    | succ j =>
      obtain ⟨a1, a2, a3, a4⟩ := dj j (by simpa using hj)
      exact ⟨a1, a2, by show D j ≤ z; omega, a4⟩
set_option maxRecDepth 100000 in
set_option maxHeartbeats 4000000 in
theorem first_any (A A2 : Option Addr) (n c c2 S : Nat) (x : Nat → Int) (hL : LyP n x) (hS : S ≤ 1000) (z : Nat) (hz : z ≤ S) (l : List Nat) (hB : B x w1 n 0 (z : Int) = some l) (w : World) (hA : Nums w w.heap.size A n x) (hF : Nums w w.heap.size A2 (S + 1) (FT x n)) :
    Calls Try.prog 74 #[.slice A n c, .slice A2 (S + 1) c2, .int .i64 (z : Int)] w (RowAt l.length (bl x l) w) := by
  obtain ⟨i0, hi0, hz0, hz1, hz2⟩ := info_parts info_int
  have HNf := Lib.hid (And.intro hi0 (And.intro hz0 (And.intro hz1 hz2)))
  have HA := Lib.hid hA
  have HF := Lib.hid hF
  have hn8 := hL.1.2
  have HLx := Lib.hid (lay_of hL)
  have hlen : (l.length : Int) ≤ 1000 := (ok_bd (par_of hL) (lo := (z : Int)) (hi := (z : Int) + 0) (by omega) (B_ok (lay1 hL) hB)).1
  obtain ⟨D, d0, dj, dl⟩ := chain0 (lay1 hL) l z hB
  have HTb : Hid (∀ p : Nat, p ≤ 1000 → -1 ≤ FT x n p ∧ FT x n p ≤ 1000) := Lib.hid fun p hp => by have := ft_bd hL (z := (p : Int)) (by omega); unfold FT; omega
  have HD : Hid (∀ j, j < l.length → l.getD j 0 < n ∧ 0 < D j ∧ D j ≤ z ∧ (D j : Int) - x (l.getD j 0) = (D (j + 1) : Int) ∧ 0 ≤ FT x n (D (j + 1)) ∧ FT x n (D (j + 1)) + 1 = FT x n (D j) ∧
      ∀ q r : Nat, l.getD j 0 < q → q < n → (D j : Int) - x q = (r : Int) → 0 ≤ FT x n r → FT x n r + 1 ≠ FT x n (D j)) := Lib.hid dj
  have HBl : Hid (∀ j, bl x l j = x (l.getD j 0)) := Lib.hid fun j => rfl
  have HP : Hid (∀ v w', w'.ownsRow w.heap.size 2 1 v l.length (upto (bl x l) l.length) → Below w.heap.size w w' → RowAt l.length (bl x l) w (.returned v) w') := Lib.hid fun v w' h hb => row_own h hb
  generalize RowAt l.length (bl x l) w = Q at HP ⊢
  generalize bl x l = d at *
  generalize hm : l.length = m at *
  generalize l.getD = gt at *
  generalize FT x n = Tt at *
  have HD0 := Lib.hid d0
  obtain rfl := HD0.out
  clear hi0 hz0 hz1 hz2 hA hF hB d0 dj hm HD0
  go_enter Try.func74, Try.ntmps74
  go_wp2_with fail
  go_loopg [2, 7, 8, 9] m (fun kx a o _ _ wr => ∃ (j : Nat) (v : Value), j ≤ m ∧ kx = m - j ∧ v = o ∧ a = .int .i64 (D j : Int) ∧ Hid (Below w.heap.size w wr) ∧ Hid (wr.ownsRow w.heap.size 2 1 v j (upto d j)))
  case atStart => exact ⟨0, _, Nat.zero_le _, rfl, rfl, rfl, Lib.hid (below_box _ _), Lib.hid (World.ownsRow_made w #[] 0 (Nat.le_refl _) (by simp [maxLen]) rfl)⟩
  case round =>
    obtain ⟨j, v, hj, rfl, rfl, rfl, HB, HO⟩ := hrel
    by_cases hlt : j < m
    · obtain ⟨b1, b2, b3, b4, b5, b6, b7⟩ := HD.out j hlt
      have HAr := Lib.hid (HA.out.below HB.out (Nat.le_refl _))
      have HFr := Lib.hid (HF.out.below HB.out (Nat.le_refl _))
      have HU : Hid (upto d (j + 1) = upto d j ++ [.int .i64 (d j)]) := Lib.hid (upto_snoc _ _)
      have HBj := Lib.hid (HBl.out j)
      have H7 := Lib.hid b7
      generalize gt j 0 = i at b1 b4 HBj H7
      generalize hz' : D j = y at b2 b3 b4 b6 H7 ⊢
      have hzr := HB.out.size
      have hy0 : (0 : Int) < (y : Int) := by omega
      have hyS : (y : Int) < ((S + 1 : Nat) : Int) := by omega
      clear b7 hz'
      go_wp2_with fail
      go_loopg [2, 7, 8, 9] (n - 1 - i) (fun ky a o q _ wx => ∃ k : Nat, i ≤ k ∧ k < n ∧ ky = k - i ∧ q = .int .i64 (k : Int) ∧ a = .int .i64 (y : Int) ∧ o = v ∧ Hid (Below w.heap.size w wx) ∧ Hid (wx.ownsRow w.heap.size 2 1 v j (upto d j)))
      case atStart => exact ⟨n - 1, by omega, by omega, by omega, by rw [show ((n - 1 : Nat) : Int) = (n : Int) - 1 by omega], rfl, rfl, HB, HO⟩
      case round =>
        clear HAr HFr hzr HB HO
        obtain ⟨k, hk, hkn, rfl, rfl, rfl, rfl, HB, HO⟩ := hrel
        have HAr := Lib.hid (HA.out.below HB.out (Nat.le_refl _))
        have HFr := Lib.hid (HF.out.below HB.out (Nat.le_refl _))
        have hzr := HB.out.size
        obtain ⟨b, off, rfl, hb, hc⟩ := HAr.out (by omega)
        obtain ⟨bf, of, rfl, hbf, hcf⟩ := HFr.out (by omega)
        have x0 := hc k hkn
        have ty := hcf y (by omega)
        obtain ⟨v1, v2⟩ := HLx.out k hkn
        obtain ⟨t1, t2⟩ := HTb.out y (by omega)
        have e0 : (0 : Int) ≤ (k : Int) := Int.natCast_nonneg _
        have e1 : (k : Int) < (n : Int) := by omega
        by_cases hki : k = i
        · subst hki
          have tp := hcf (D (j + 1)) (by omega)
          obtain ⟨t3, t4⟩ := HTb.out (D (j + 1)) (by omega)
          have HDs : Hid ((D (j + 1) : Int) = (y : Int) - x k) := Lib.hid b4.symm
          have hp0 : (0 : Int) ≤ (D (j + 1) : Int) := Int.natCast_nonneg _
          have hp1 : (D (j + 1) : Int) < ((S + 1 : Nat) : Int) := by omega
          have hle : x k ≤ (y : Int) := by omega
          clear hc hcf H7 hb hbf
          generalize hDz : D (j + 1) = z at b4 b5 b6 tp t3 t4 HDs hp0 hp1
          generalize x k = u at x0 v1 v2 b4 HBj HDs hle
          generalize Tt y = ta at ty t1 t2 b6
          generalize Tt z = tb at tp t3 t4 b5 b6
          rw [show ((z : Nat) : Int) = (y : Int) - u by omega] at hp0 hp1
          have tp' : wr.cell? ⟨bf, of + ((y : Int) - u).toNat, none⟩ = some (.int .i64 tb) := by rw [show ((y : Int) - u).toNat = z by omega]; exact tp
          have g1 : decide (u ≤ (y : Int)) = true := decide_eq_true hle
          have g2 : decide (0 ≤ tb) = true := decide_eq_true b5
          have g3 : (tb + 1 == ta) = true := by simpa using b6
          go_upto_region 7 with fail
          go_quiet (fail)
          have HB6 := Lib.hid (below_drewN HB.out nq)
          have HO6 : Hid ((wr.drewN nq).ownsRow w.heap.size 2 1 u7 j (upto d j)) := HO
          generalize wr.drewN nq = wq at HB6 HO6 ⊢
          have hz6 := HB6.out.size
          clear HB HO HAr HFr x0 tp tp' ty
          go_wp2_with (at_builtin; refine wpList_append_own _ rfl _ _ 22 rfl w.heap.size 2 i0 _ 1 8 Try.underlying22 HNf.out.1 HNf.out.2.1 HNf.out.2.2.1 HNf.out.2.2.2 rfl (by decide) _ _ _ rfl (HO6.out.alloc _) ⟨wq.heap.size, 0, none⟩ 1 1 [.int .i64 u] rfl rfl ?c1 ?c2 ?c3 ?c4 ?c5 ?_)
          case c1 => exact cell_one_new _ _ _
          case c2 => simp [Value.oneCell']
          case c3 => unfold maxLen; omega
          case c4 => omega
          case c5 => first | omega | (simp <;> omega)
          intro v' w5 hown hgrow _
          have HB7 := Lib.hid ((HB6.out.alloc hz6 _).grown hgrow (by simp; omega) fun g hg => (HO6.out.lt g hg).1)
          have HO7 : Hid (w5.ownsRow w.heap.size 2 1 v' (j + 1) (upto d (j + 1))) := Lib.hid (by rw [HU.out, HBj.out]; exact hown)
          clear hown hgrow
          go_wp2_with fail
          go_roundg (m - (j + 1))
          case measure => omega
          case rel => exact ⟨j + 1, _, by omega, rfl, rfl, by rw [hDz, HDs.out], HB7, HO7⟩
        · have H8 := Lib.hid (fun r => H7.out k r (by omega) hkn)
          by_cases h1 : x k ≤ (y : Int)
          · obtain ⟨r, hr⟩ : ∃ r : Nat, (y : Int) - x k = (r : Int) := ⟨((y : Int) - x k).toNat, by omega⟩
            have tp := hcf r (by omega)
            obtain ⟨t3, t4⟩ := HTb.out r (by omega)
            have H9 := Lib.hid (H8.out r hr)
            have hp0 : (0 : Int) ≤ (r : Int) := Int.natCast_nonneg _
            have hp1 : (r : Int) < ((S + 1 : Nat) : Int) := by omega
            clear hc hcf H7 hb hbf H8
            generalize x k = u at x0 v1 v2 hr h1
            generalize Tt y = ta at ty t1 t2 b6 H9
            generalize Tt r = tb at tp t3 t4 H9
            rw [show ((r : Nat) : Int) = (y : Int) - u by omega] at hp0 hp1
            have tp' : wr.cell? ⟨bf, of + ((y : Int) - u).toNat, none⟩ = some (.int .i64 tb) := by rw [show ((y : Int) - u).toNat = r by omega]; exact tp
            have g1 : decide (u ≤ (y : Int)) = true := decide_eq_true h1
            by_cases h2 : 0 ≤ tb
            · have g2 : decide (0 ≤ tb) = true := decide_eq_true h2
              have g3 : (tb + 1 == ta) = false := by simpa using H9.out h2
              go_upto_region 7 with fail
              go_quiet (fail)
              have HB6 := Lib.hid (below_drewN HB.out nq)
              have HO6 : Hid ((wr.drewN nq).ownsRow w.heap.size 2 1 u7 j (upto d j)) := HO
              generalize wr.drewN nq = wq at HB6 HO6 ⊢
              clear HB HO HAr HFr
              go_wp2_with fail
              go_roundg (k - 1 - i)
              case measure => omega
              case rel => exact ⟨k - 1, by omega, by omega, rfl, by rw [show ((k - 1 : Nat) : Int) = (k : Int) - 1 by omega], rfl, rfl, HB6, HO6⟩
            · have g2 : decide (0 ≤ tb) = false := decide_eq_false h2
              go_upto_region 7 with fail
              go_quiet (fail)
              have HB6 := Lib.hid (below_drewN HB.out nq)
              have HO6 : Hid ((wr.drewN nq).ownsRow w.heap.size 2 1 u7 j (upto d j)) := HO
              generalize wr.drewN nq = wq at HB6 HO6 ⊢
              clear HB HO HAr HFr
              go_wp2_with fail
              go_roundg (k - 1 - i)
              case measure => omega
              case rel => exact ⟨k - 1, by omega, by omega, rfl, by rw [show ((k - 1 : Nat) : Int) = (k : Int) - 1 by omega], rfl, rfl, HB6, HO6⟩
          · have g1 : decide (x k ≤ (y : Int)) = false := decide_eq_false h1
            clear hc hcf H7 hb hbf H8
            generalize x k = u at x0 v1 v2 g1
            go_upto_region 7 with fail
            go_quiet (fail)
            have HB6 := Lib.hid (below_drewN HB.out nq)
            have HO6 : Hid ((wr.drewN nq).ownsRow w.heap.size 2 1 u7 j (upto d j)) := HO
            generalize wr.drewN nq = wq at HB6 HO6 ⊢
            clear HB HO HAr HFr
            go_wp2_with fail
            go_roundg (k - 1 - i)
            case measure => omega
            case rel => exact ⟨k - 1, by omega, by omega, rfl, by rw [show ((k - 1 : Nat) : Int) = (k : Int) - 1 by omega], rfl, rfl, HB6, HO6⟩
    · obtain rfl : j = m := by omega
      have HR := Lib.hid (HP.out _ _ HO.out HB.out)
      rw [show ((D j : Nat) : Int) = 0 by rw [dl]; rfl]
      go_wp2_with fail
      exact HR.out
end Go.Proofs.Ytpmmfalpcooenab.Fe
