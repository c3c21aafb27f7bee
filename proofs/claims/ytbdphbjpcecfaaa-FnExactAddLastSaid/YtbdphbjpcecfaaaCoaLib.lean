/- slices.Grow of the nil slice, slices.Concat of three lists of lasts. -/
import Derived.Test.YtbdphbjpcecfaaaAeLib
import Derived.Lib.SliceRun
import Derived.Lib.AppendZerosOnto
namespace Go.Proofs.Ytbdphbjpcecfaaa.Ad
open Go.RowKit Ft Ge Qb La Ll Lv Pl

set_option maxRecDepth 100000 in
set_option maxHeartbeats 2000000 in
theorem grow_any (n : Nat) (h0 : 0 < n) (h1 : n ≤ 1000) (w : World) :
    Calls Try.prog 63 #[.slice none 0 0, .int .i64 (n : Int)] w fun e w' => ∃ v, e = .returned v ∧ Hid (w'.ownsRow w.heap.size 31 6 v 0 []) ∧ Below w.heap.size w w' := by
  obtain ⟨i0, hi0, hz0, hz1, hz2⟩ := info_parts Ks.info_la
  have hold : (Builtin.firstCells i0.size 0 (.slice none 0 0)).run Try.prog w.drew = .ok #[] w.drew := run_firstCells_none w.drew i0.size 0 0 0
  have hrz : ∀ ty, (Builtin.append_ #[27, 3] ty #[.slice none 0 0, .int .i64 (n : Int)]).run Try.prog w = _ := fun ty =>
    Go.Lib.run_append_grow_zeros w 27 3 ty 31 i0 _ .i64 .i64 Try.underlying27 Try.underlying3 hi0 hz0 none 0 0 [] hold n (by omega) (by rw [hz1]; omega) (by omega) (by omega) (by rw [hz2]; omega) (by rw [hz2]; exact growslice_fits (by omega) (by omega))
  rw [Nat.zero_add] at hrz
  have hGn : n ≤ grownCap w n 0 31 := grownCap_ge w _ _ _
  have hG63 : grownCap w n 0 31 ≤ maxLen := grownCap_le_maxLen w n 0 31 (by unfold maxLen; omega)
  have HB : Hid (∀ o, Below w.heap.size w (w.drew.alloc o)) := Lib.hid fun o => (Below.refl w.heap.size w).drew.alloc (Nat.le_refl _) o
  have HO : Hid (∀ cur : Array Value, cur.size = grownCap w n 0 31 * 6 → (w.drew.alloc (.cells cur 31)).ownsRow w.heap.size 31 6 (.slice (some ⟨w.heap.size, 0, none⟩) 0 (grownCap w n 0 31)) 0 []) := Lib.hid fun cur hc =>
    ⟨rfl, .inr ⟨w.heap.size, _, cur, rfl, Nat.le_refl _, heap_alloc_new w.drew _, Nat.zero_le _, hG63, hc, by simp⟩⟩
  generalize grownCap w n 0 31 = G at hrz hGn hG63 HO
  have hG : G ≤ 9223372036854775807 := by unfold maxLen at hG63; omega
  generalize hcur : (_ : Array Value) ++ _ = cur at hrz
  have HC := Lib.hid (HO.out cur (by
    have h6 : (Value.agg #[.string ⟨#[]⟩, .int .i64 0, .int .i64 0, .int .i64 0, .int .i64 0, .int .i64 0]).cells.size = 6 := rfl
    rw [← hcur]
    simp only [Builtin.zeroCells, Array.size_append, List.size_toArray, List.length_nil, h6]
    simp
    omega))
  clear hold hi0 hz0 hz1 hz2 hcur HO
  go_enter Try.func63, Try.ntmps63
  go_wp2_with (at_builtin; refine Go.Lib.wpList_append_run _ rfl _ _ _ _ rfl _ _ rfl rfl _ _ (hrz _) ?_)
  go_wp2_with fail
  go_ret
  exact ⟨_, rfl, HC, HB.out _⟩
def sm (m : Nat → Nat) : Nat → Nat
  | 0 => 0
  | k + 1 => sm m k + m k
def ct (nw : Nat → List Value) : Nat → List Value
  | 0 => []
  | k + 1 => ct nw k ++ nw k
set_option maxRecDepth 100000 in
set_option maxHeartbeats 2000000 in
theorem concat_any (gs : Nat) (ad : Nat → Addr) (m c : Nat → Nat) (nw : Nat → List Value) (w : World) (hg : ∀ j, j < 3 → w.cell? ⟨gs, j, none⟩ = some (.slice (some (ad j)) (m j) (c j))) (hl : ∀ j, j < 3 → (nw j).length = m j * 6)
    (hc : ∀ j, j < 3 → ∀ i u, (nw j)[i]? = some u → w.cell? ((ad j).add i) = some u) (h1 : ∀ j, j < 3 → ∀ u ∈ nw j, u.oneCell' = true) (hm : ∀ j, j < 3 → m j ≤ 300) (h0 : 0 < sm m 3) :
    Calls Try.prog 40 #[.slice (some ⟨gs, 0, none⟩) 3 3] w fun e w' => ∃ v, e = .returned v ∧ Hid (w'.ownsRow w.heap.size 31 6 v (sm m 3) (ct nw 3)) ∧ Below w.heap.size w w' := by
  obtain ⟨i0, hi0, hz0, hz1, hz2⟩ := info_parts Ks.info_la
  have HI := Lib.hid (And.intro hi0 (And.intro hz0 (And.intro hz1 hz2)))
  clear hi0 hz0 hz1 hz2
  have HG := Lib.hid hg
  have HL := Lib.hid hl
  have HC := Lib.hid hc
  have H1 := Lib.hid h1
  have HM := Lib.hid hm
  have hs : ∀ k, k ≤ 3 → sm m k ≤ 300 * k := by
    intro k
    induction k with
    | zero => intro _; simp [sm]
    | succ k ih =>
      intro hk
      have := ih (by omega)
      have := hm k (by omega)
      simp only [sm]
      omega
  have HS := Lib.hid hs
  have GR := Lib.hid (fun w => grow_any (sm m 3) h0 (by have := hs 3 (by omega); omega) w)
  have SS : Hid (∀ k, sm m (k + 1) = sm m k + m k) := Lib.hid fun _ => rfl
  have CC : Hid (∀ k, ct nw (k + 1) = ct nw k ++ nw k) := Lib.hid fun _ => rfl
  have S0 : Hid (sm m 0 = 0) := Lib.hid rfl
  have C0 : Hid (ct nw 0 = []) := Lib.hid rfl
  clear hg hl hc h1 hm hs h0
  generalize sm m = M at HS GR SS S0 ⊢
  generalize ct nw = K at CC C0 ⊢
  go_enter Try.func40, Try.ntmps40
  go_wp2_with fail
  go_loop [3, 5, 11] (fun sz _ i => ∃ k : Nat, k ≤ 3 ∧ sz = .int .i64 (M k : Nat) ∧ i = .int .i64 (k : Int)) (fun _ _ i => 3 - (intOf i).toNat)
  case atStart => exact ⟨0, Nat.zero_le _, by rw [S0.out]; rfl, rfl⟩
  case round =>
    obtain ⟨k, hk, rfl, rfl⟩ := hrel
    have e0 : (0 : Int) ≤ (k : Int) := Int.natCast_nonneg _
    by_cases hlt : k < 3
    · have x0 := HG.out k hlt
      have hmk := HM.out k hlt
      have hsk := HS.out k hk
      have e1 : (k : Int) < 3 := by omega
      have HE : Hid (((M (k + 1) : Nat) : Int) = (M k : Nat) + (m k : Nat)) := Lib.hid (by rw [SS.out]; omega)
      have g0 : (0 : Int) ≤ ((M k : Nat) : Int) := Int.natCast_nonneg _
      have g1 : ((M k : Nat) : Int) ≤ 900 := by omega
      have g2 : (0 : Int) ≤ ((m k : Nat) : Int) := Int.natCast_nonneg _
      have g3 : ((m k : Nat) : Int) ≤ 300 := by omega
      generalize M k = Mk at HE g0 g1 hsk
      generalize m k = mk at x0 HE g2 g3 hmk
      generalize c k = ck at x0
      generalize ad k = ak at x0
      go_wp2_with fail
      go_round
      case rel => exact ⟨k + 1, by omega, by rw [HE.out], by go_num⟩
      case measure => simp [intOf] <;> omega
    · obtain rfl : k = 3 := by omega
      go_wp2_with fail
      refine (GR.out _).mono ?_
      rintro e w1 ⟨v0, rfl, HO0, b0⟩
      have B0 := Lib.hid b0
      clear b0 GR
      go_wp2_with fail
      go_loopw [6, 8, 27] (fun o _ i wr => ∃ (k : Nat) (v : Value), k ≤ 3 ∧ v = o ∧ i = .int .i64 (k : Int) ∧ Hid (Below w.heap.size w wr) ∧ Hid (wr.ownsRow w.heap.size 31 6 v (M k) (K k))) (fun _ _ i _ => 3 - (intOf i).toNat)
      case atStart => exact ⟨0, _, Nat.zero_le _, rfl, rfl, B0, Lib.hid (by rw [S0.out, C0.out]; exact HO0.out)⟩
      case round =>
        obtain ⟨k, v, hk, rfl, rfl, HB, HO⟩ := hrel
        have e0 : (0 : Int) ≤ (k : Int) := Int.natCast_nonneg _
        by_cases hlt : k < 3
        · have x0 := Ks.keep_cell HB.out (HG.out k hlt)
          have hmk := HM.out k hlt
          have hsk := HS.out k hk
          have hlk := HL.out k hlt
          have hck : Hid (∀ i u, (nw k)[i]? = some u → wr.cell? ((ad k).add i) = some u) := Lib.hid fun i u hu => by
            have h := HC.out k hlt i u hu
            exact (HB.out.cell (World.block_lt_of_cell? w _ h)).trans h
          have h1k := Lib.hid (H1.out k hlt)
          have e1 : (k : Int) < 3 := by omega
          have hz := HB.out.size
          have SK := Lib.hid (SS.out k)
          have CK := Lib.hid (CC.out k)
          generalize nw k = nk at hlk hck h1k CK
          generalize ad k = ak at x0 hck
          generalize c k = cck at x0
          generalize m k = mk at x0 hmk hlk SK
          generalize M k = Mk at HO hsk SK
          generalize hM1 : M (k + 1) = Mk1 at SK
          generalize K k = Kk at HO CK
          generalize hK1 : K (k + 1) = Kk1 at CK
          go_wp2_with (at_builtin; refine wpList_append_own _ rfl (.tmp 31) (.tmp 32) 27 rfl w.heap.size 31 i0 _ 6 56 Try.underlying27 HI.out.1 HI.out.2.1 HI.out.2.2.1 HI.out.2.2.2 rfl (by decide) v Mk Kk rfl HO.out ak mk cck nk rfl hlk hck.out h1k.out ?c3 ?c4 hz ?_)
          case c3 => unfold maxLen; omega
          case c4 => omega
          intro v' w5 hown5 hgrow _
          have HB5 := Lib.hid (HB.out.grown hgrow hz fun b hb => (HO.out.lt b hb).1)
          have HO5 : Hid (w5.ownsRow w.heap.size 31 6 v' Mk1 Kk1) := Lib.hid (by rw [SK.out, CK.out]; exact hown5)
          clear hown5 hgrow
          go_wp2_with fail
          go_roundw
          case rel => exact ⟨k + 1, _, by omega, rfl, by go_num, HB5, by rw [hM1, hK1]; exact HO5⟩
          case measure => simp [intOf] <;> omega
        · obtain rfl : k = 3 := by omega
          go_wp2_with fail
          go_ret
          exact ⟨_, rfl, HO, HB.out⟩
end Go.Proofs.Ytbdphbjpcecfaaa.Ad
