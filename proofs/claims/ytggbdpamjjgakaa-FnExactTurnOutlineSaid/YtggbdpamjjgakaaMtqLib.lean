/- TurnOutline: the spec's function. -/
import Derived.Test.YtggbdpamjjgakaaMsqLib
namespace Go.Proofs.Ytggbdpamjjgakaa.Mtq
set_option linter.unusedVariables false
open Go.RowKit Ft Is Ge Qb Ol Ot Opl Oq Oi Oj Ok Om Bo Bp Bw Mo Mp Mq Mr Msq

/-- Turned k times, those ahead of i once more. -/
def rtp (f : Nat → Int) (k i : Nat) (j : Nat) : Int := if j % 2 = 0 then (rotN (if j / 2 < i then k + 1 else k) (pt f (j / 2))).1 else (rotN (if j / 2 < i then k + 1 else k) (pt f (j / 2))).2
theorem rtp_0 (f : Nat → Int) (k : Nat) (j : Nat) : rtp f k 0 j = mp (rotN k) f j := by unfold rtp mp; simp
theorem rtp_n {n : Nat} (f : Nat → Int) (k : Nat) {j : Nat} (hj : j < n * 2) : rtp f k n j = rtp f (k + 1) 0 j := by
  unfold rtp
  rw [if_pos (show j / 2 < n by omega)]
  simp
theorem rtp_v (f : Nat → Int) (k i : Nat) : rtp f k i (i * 2) = (rotN k (pt f i)).1 ∧ rtp f k i (i * 2 + 1) = (rotN k (pt f i)).2 := by
  unfold rtp
  rw [if_pos (by omega), if_neg (show ¬ (i * 2 + 1) % 2 = 0 by omega), show i * 2 / 2 = i by omega, show (i * 2 + 1) / 2 = i by omega, if_neg (by omega)]
  exact ⟨rfl, rfl⟩
theorem rtp_s (f : Nat → Int) (k i : Nat) (j : Nat) : rtp f k (i + 1) j = if j = i * 2 then -(rotN k (pt f i)).2 else if j = i * 2 + 1 then (rotN k (pt f i)).1 else rtp f k i j := by
  by_cases h1 : j = i * 2
  · subst h1
    rw [if_pos rfl]
    unfold rtp
    rw [if_pos (by omega), show i * 2 / 2 = i by omega, if_pos (by omega)]
    rfl
  · rw [if_neg h1]
    by_cases h2 : j = i * 2 + 1
    · subst h2
      rw [if_pos rfl]
      unfold rtp
      rw [if_neg (show ¬ (i * 2 + 1) % 2 = 0 by omega), show (i * 2 + 1) / 2 = i by omega, if_pos (by omega)]
      rfl
    · rw [if_neg h2]
      unfold rtp
      have : (j / 2 < i + 1) ↔ (j / 2 < i) := by omega
      simp only [this]
theorem rtp_at {w : World} {g n k i : Nat} {f : Nat → Int} (hi : i < n) (hA : Ge.At w g (n * 2) (rtp f k i)) {a b : Int} (ea : a = -(rotN k (pt f i)).2) (eb : b = (rotN k (pt f i)).1) :
    Ge.At ((w.setCell ⟨g, i * 2, none⟩ (.int .i64 a)).setCell ⟨g, i * 2 + 1, none⟩ (.int .i64 b)) g (n * 2) (rtp f k (i + 1)) := by
  subst ea eb
  have hne : ∀ {x y : Nat}, x ≠ y → (⟨g, x, none⟩ : Addr) ≠ ⟨g, y, none⟩ := fun hxy q => hxy (Addr.mk.inj q).2.1
  have hv : ∀ {w : World} {x y : Nat} {u : Value} {v : Value}, w.cell? ⟨g, y, none⟩ = some v → (w.setCell ⟨g, x, none⟩ u).cell? ⟨g, y, none⟩ = some (if x = y then u else v) := fun {w x y u v} hc => by
    by_cases e : x = y
    · subst e
      rw [if_pos rfl]
      exact World.cell?_setCell_same _ _ _ hc
    · rw [if_neg e, World.cell?_setCell_other _ _ _ _ (hne e), hc]
  refine ⟨by simpa using hA.1, fun j hj => ?_, fun j => by simp only [World.frozen?_setCell]; exact hA.2.2 j⟩
  rw [hv (hv (hA.2.1 j hj)), rtp_s]
  congr 1
  by_cases c1 : i * 2 + 1 = j
  · subst c1
    rw [if_pos rfl, if_neg (by omega), if_pos rfl]
  · rw [if_neg c1]
    by_cases c2 : i * 2 = j
    · subst c2
      rw [if_pos rfl, if_pos rfl]
    · rw [if_neg c2, if_neg (Ne.symm c2), if_neg (Ne.symm c1)]
set_option maxRecDepth 100000 in
set_option maxHeartbeats 8000000 in
theorem spec_tn (A : Option Addr) (n c : Nat) (f : Nat → Int) (q : Int) (hn : n ≤ 1048576) (w : World) (hA : Nums w w.heap.size A (n * 2) f) :
    Calls Try.prog 39 #[.slice A n c, .int .i64 q] w (PrS (tnM n f q) (tnD n f q) (tnC n f q) w) := by
  have C := Lib.hid (sok A n c f hn w hA)
  have I := Lib.hid fun w => Ft.in_any q 0 3 w
  unfold tnM tnC
  cases ho : outB n f
  · rw [ho] at C
    clear hA
    simp only [Bool.false_eq_true, if_false]
    have HN : Hid (∀ w', Below w.heap.size w w' → PrS 0 (tnD n f q) 1 w (.returned (.tuple #[.slice none 0 0, .int .i64 1])) w') := Lib.hid fun w' hb => prs_no hb
    generalize PrS 0 (tnD n f q) 1 w = Q at HN ⊢
    go_enter Try.func39, Try.ntmps39
    go_wp2_with fail
    refine C.out.mono ?_
    rintro e w2 ⟨rfl, b2⟩
    go_wp2_with fail
    exact HN.out _ b2
  · obtain ⟨hR, h3, h24⟩ := out_is ho
    rw [ho] at C
    simp only [if_true]
    cases hr : inB q 0 3
    · rw [hr] at I
      clear hA
      simp only [Bool.false_eq_true, if_false]
      have HN : Hid (∀ w', Below w.heap.size w w' → PrS 0 (tnD n f q) 2 w (.returned (.tuple #[.slice none 0 0, .int .i64 2])) w') := Lib.hid fun w' hb => prs_no hb
      generalize PrS 0 (tnD n f q) 2 w = Q at HN ⊢
      go_enter Try.func39, Try.ntmps39
      go_wp2_with fail
      refine C.out.mono ?_
      rintro e w2 ⟨rfl, b2⟩
      go_wp2_with fail
      refine (I.out _).mono ?_
      rintro e w' ⟨rfl, rfl⟩
      go_wp2_with fail
      exact HN.out _ b2
    · rw [hr] at I
      have hq : 0 ≤ q ∧ q ≤ 3 := by simpa [inB] using hr
      obtain ⟨m, rfl⟩ : ∃ m : Nat, q = (m : Int) := ⟨q.toNat, by omega⟩
      simp only [if_true]
      obtain ⟨i0, hi0, hz0, hz1, hz2⟩ := info_parts info_sp
      have HI := Lib.hid (And.intro hi0 (And.intro hz0 (And.intro hz1 hz2)))
      obtain ⟨b, off, rfl, hb, hc⟩ := hA (by omega)
      have HC := Lib.hid hc
      have HRb : Hid (∀ k i, i < n → (-10000 ≤ (rotN k (pt f i)).1 ∧ (rotN k (pt f i)).1 ≤ 10000) ∧ (-10000 ≤ (rotN k (pt f i)).2 ∧ (rotN k (pt f i)).2 ≤ 10000)) := Lib.hid fun k i hi => rot_bd (pt_bd hR hi) k
      have HBd : Bnd n (mp (rotN m) f) := mp_bd fun i hi => HRb.out m i hi
      have LY : Hid (∀ w' B c', Nums w' w'.heap.size B (n * 2) (mp (rotN m) f) → Calls Try.prog 68 #[.slice B n c'] w' (RowAt n (ly n (mp (rotN m) f)) w')) := Lib.hid fun w' B c' h => slay B n c' _ (by omega) h24 HBd w' h
      have HY : Hid (∀ B cap (w1 w' : World), w.heap.size ≤ w1.heap.size → Own w' w1.heap.size B (n * 2) (ly n (mp (rotN m) f)) → Below w.heap.size w w' → PrS n (tnD n f (m : Int)) 0 w (.returned (.tuple #[.slice B n cap, .int .i64 0])) w') := Lib.hid fun B cap w1 w' hs h hbl => ⟨B, cap, rfl, Lib.hid (by unfold tnD; rw [Int.toNat_natCast]; exact own_later h hs), hbl⟩
      have HP0 : Hid (∀ w g, Ge.At w g (n * 2) f → Ge.At w g (n * 2) (rtp f 0 0)) := Lib.hid fun w g h => at_ext h fun j hj => by
        rw [rtp_0]
        unfold mp
        split
        · show _ = f (j / 2 * 2)
          rw [show j / 2 * 2 = j by omega]
        · show _ = f (j / 2 * 2 + 1)
          rw [show j / 2 * 2 + 1 = j by omega]
      have HPn : Hid (∀ w g k, Ge.At w g (n * 2) (rtp f k n) → Ge.At w g (n * 2) (rtp f (k + 1) 0)) := Lib.hid fun w g k h => at_ext h fun j hj => rtp_n f k hj
      have HPm : Hid (∀ w g, Ge.At w g (n * 2) (rtp f m 0) → Ge.At w g (n * 2) (mp (rotN m) f)) := Lib.hid fun w g h => at_ext h fun j _ => rtp_0 f m j
      have HPs : Hid (∀ w g k i, i < n → Ge.At w g (n * 2) (rtp f k i) → ∀ a b, a = -(rotN k (pt f i)).2 → b = (rotN k (pt f i)).1 → Ge.At ((w.setCell ⟨g, i * 2, none⟩ (.int .i64 a)).setCell ⟨g, i * 2 + 1, none⟩ (.int .i64 b)) g (n * 2) (rtp f k (i + 1))) := Lib.hid fun w g k i hi h a b ea eb => rtp_at hi h ea eb
      have HPv : Hid (∀ k i, rtp f k i (i * 2) = (rotN k (pt f i)).1 ∧ rtp f k i (i * 2 + 1) = (rotN k (pt f i)).2) := Lib.hid fun k i => rtp_v f k i
      generalize rtp f = P at HP0 HPn HPm HPs HPv
      generalize PrS n (tnD n f (m : Int)) 0 w = Q at HY ⊢
      generalize ly n (mp (rotN m) f) = L at LY HY
      generalize mp (rotN m) f = M at LY HPm
      have hnews : ∀ (w' : World), Below w.heap.size w w' → ∀ (j : Nat) (u : Value), (upto f (n * 2))[j]? = some u → w'.cell? ((⟨b, off, none⟩ : Addr).add j) = some u := fun w' hbl j u hu => by
        have hj : j < n * 2 := by
          have := (List.getElem?_eq_some_iff.1 hu).1
          simpa [upto] using this
        rw [upto_get f hj] at hu
        cases hu
        rw [add_eq]
        exact (hbl.cell (p := ⟨b, off + j, none⟩) hb).trans (hc j hj)
      have HNw := Lib.hid hnews
      clear hA hc hR HBd hi0 hz0 hz1 hz2 hnews
      have e24 : (n : Int) ≤ 24 := by omega
      have em : (m : Int) ≤ 3 := by omega
      have em0 : (0 : Int) ≤ (m : Int) := by omega
      go_enter Try.func39, Try.ntmps39
      go_wp2_with fail
      refine C.out.mono ?_
      rintro e w1 ⟨rfl, b1⟩
      have B1 := Lib.hid b1
      have hz1 := b1.size
      clear b1 C
      go_wp2_with fail
      refine (I.out _).mono ?_
      rintro e w' ⟨rfl, rfl⟩
      have O0 : Hid ((w1.alloc (.cells #[] 38)).ownsRow w1.heap.size 38 2 (.slice (some ⟨w1.heap.size, 0, none⟩) 0 0) 0 []) := Lib.hid (World.ownsRow_made w1 #[] 0 (Nat.le_refl _) (by simp [maxLen]) rfl)
      have HB0 := Lib.hid (below_box w1 (.cells #[] 38))
      go_wp2_with (at_builtin; refine wpList_append_own _ rfl _ _ 25 rfl w1.heap.size 38 i0 _ 2 16 Try.underlying25 HI.out.1 HI.out.2.1 HI.out.2.2.1 HI.out.2.2.2 rfl (by decide) _ 0 [] rfl O0.out ⟨b, off, none⟩ n c (upto f (n * 2)) rfl ?c0 ?c1 ?c2 ?c3 ?c4 ?c5 ?_)
      case c0 => simp [upto]
      case c1 => exact HNw.out _ (below_then B1.out HB0.out)
      case c2 =>
        intro u hu
        simp only [upto, List.mem_map] at hu
        obtain ⟨j, _, rfl⟩ := hu
        rfl
      case c3 => unfold maxLen; omega
      case c4 => omega
      case c5 => simp
      intro v' w2 hown2 hgrow _
      have HB2 := Lib.hid (HB0.out.grown hgrow (by simp) fun g hg => (O0.out.lt g hg).1)
      obtain ⟨g, cap, rfl, hbg, hh⟩ : ∃ g cap, v' = .slice (some ⟨g, 0, none⟩) n cap ∧ w1.heap.size ≤ g ∧ ∃ cur, w2.heap[g]? = some (.cells cur 38 (0, 0)) := by
        rcases hown2.2 with ⟨_, h0⟩ | ⟨g, cap, cur, hv, hbg, hh, _⟩
        · omega
        · exact ⟨g, cap, hv, hbg, cur, hh⟩
      obtain ⟨cur, hh⟩ := hh
      have HA2 := Lib.hid (HP0.out w2 g ⟨lt_of_heap hh, fun i hi => (hown2.cellAt i (by omega)).trans (upto_get f hi), fun i => blk_free hh i⟩)
      clear hown2 hgrow hh O0 HB0 HNw HP0
      go_wp2_with fail
      go_loopw [7, 8] (fun a _ wr => ∃ k : Nat, k ≤ m ∧ a = .int .i64 (k : Int) ∧ Hid (Below w1.heap.size w1 wr) ∧ Hid (Ge.At wr g (n * 2) (P k 0))) (fun a _ _ => m - (intOf a).toNat)
      case atStart => exact ⟨0, Nat.zero_le _, rfl, HB2, HA2⟩
      case round =>
        obtain ⟨k, hk, rfl, HB, HA⟩ := hrel
        have f0 : (0 : Int) ≤ (k : Int) := Int.natCast_nonneg _
        by_cases hlt : k < m
        · have g1 : (k : Int) < (m : Int) := by omega
          go_wp2_with fail
          go_loopg [8] n (fun gg i wr => ∃ j : Nat, j ≤ n ∧ i = .int .i64 (j : Int) ∧ n - j ≤ gg ∧ Hid (Below w1.heap.size w1 wr) ∧ Hid (Ge.At wr g (n * 2) (P k j)))
          case atStart => exact ⟨0, Nat.zero_le _, rfl, by omega, HB, HA⟩
          case round =>
            obtain ⟨j, hj, rfl, hgg, HB3, HA3⟩ := hrel
            have f1 : (0 : Int) ≤ (j : Int) := Int.natCast_nonneg _
            by_cases hjl : j < n
            · have g2 : (j : Int) < (n : Int) := by omega
              have a0 := HA3.out.2.1 (j * 2) (by omega)
              have a1 := HA3.out.2.1 (j * 2 + 1) (by omega)
              obtain ⟨v0, v1⟩ := HPv.out k j
              rw [v0] at a0
              rw [v1] at a1
              have rb := HRb.out k j hjl
              have HN := Lib.hid (HPs.out _ g k j hjl HA3.out)
              have fz := HA3.out.2.2
              have hl := HA3.out.1
              generalize rotN k (pt f j) = s at a0 a1 rb HN
              obtain ⟨s0, s1⟩ := s
              simp only at a0 a1 rb HN
              have w1' := wr_in (x := -s1) (by omega)
              have HN := Lib.hid (HN.out _ _ rfl rfl)
              clear v0 v1 hj
              go_upto_region 12 with fail
              go_region
              all_goals
                have HBd := Lib.hid (((HB3.out.setCell (p := ⟨g, j * 2, none⟩) hbg (.int .i64 (-s1))).setCell (p := ⟨g, j * 2 + 1, none⟩) hbg (.int .i64 s0)).drew)
                have HAd := Lib.hid (at_drew HN.out)
                clear HN a0 a1 fz HA3 HB3
                generalize hwz : World.drew _ = wz at HBd HAd ⊢
                clear hwz
                go_wp2_with fail
                go_roundg (n - (j + 1))
                case measure => omega
                case rel => exact ⟨j + 1, by omega, by go_num, by omega, HBd, HAd⟩
            · obtain rfl : n = j := by omega
              have g2 : ¬ (n : Int) < (n : Int) := by omega
              have HA4 := Lib.hid (HPn.out _ _ _ HA3.out)
              clear HA3 hj hjl
              go_wp2_with fail
              go_roundw
              case rel => exact ⟨k + 1, by omega, by go_num, HB3, HA4⟩
              case measure => simp [intOf]; omega
        · obtain rfl : m = k := by omega
          have g1 : ¬ (m : Int) < (m : Int) := by omega
          have HA4 := Lib.hid (HPm.out _ _ HA.out)
          have CL := Lib.hid (LY.out _ (some ⟨g, 0, none⟩) cap (Ot.at_nums HA4.out))
          clear HA HA2 HA4 hk hlt LY HPm HPn HPs HPv HRb
          go_wp2_with fail
          refine CL.out.mono ?_
          rintro e w4 ⟨B', cap', rfl, _, HO4, b4⟩
          have HF := Lib.hid (HY.out B' cap' _ w4 (by have := HB.out.size; omega) HO4.out (below_then (B1.out.trans (HB.out.mono (by omega))) b4))
          clear HO4 b4 CL HY
          go_wp2_with fail
          exact HF.out
end Go.Proofs.Ytggbdpamjjgakaa.Mtq
