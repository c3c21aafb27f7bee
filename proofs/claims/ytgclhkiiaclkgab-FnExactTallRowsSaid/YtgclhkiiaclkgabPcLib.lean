/- Blocks on a roll: the program's area of all blocks, rows of a filling, the filling of rows. -/
import Derived.Test.YtgclhkiiaclkgabPbLib
namespace Go.Proofs.Ytgclhkiiaclkgab.Pc
set_option linter.unusedVariables false
open Go.RowKit Is Ge Qb Jr Js Jt Ju Jw Jx Pa P5 Pb
open Go.Proofs.Ytgclhkiiaclkgab.Ba (inB below_then below_box)

theorem below9 {B : Nat} {w wr : World} (h : Below B w wr) {g : Nat} (hg : B ≤ g) (c0 c1 c2 c3 c4 c5 c6 c7 c8 : Value) : Below B w (((((((((wr.setCell ⟨g, 0, none⟩ c0).setCell ⟨g, 1, none⟩ c1).setCell ⟨g, 2, none⟩ c2).setCell ⟨g, 3, none⟩ c3).setCell ⟨g, 4, none⟩ c4).setCell ⟨g, 5, none⟩ c5).setCell ⟨g, 6, none⟩ c6).setCell ⟨g, 7, none⟩ c7).setCell ⟨g, 8, none⟩ c8) := (((((((((h.setCell (p := ⟨g, 0, none⟩) hg c0).setCell (p := ⟨g, 1, none⟩) hg c1).setCell (p := ⟨g, 2, none⟩) hg c2).setCell (p := ⟨g, 3, none⟩) hg c3).setCell (p := ⟨g, 4, none⟩) hg c4).setCell (p := ⟨g, 5, none⟩) hg c5).setCell (p := ⟨g, 6, none⟩) hg c6).setCell (p := ⟨g, 7, none⟩) hg c7).setCell (p := ⟨g, 8, none⟩) hg c8)
set_option maxRecDepth 100000 in
set_option maxHeartbeats 2000000 in
theorem iareas (A : Option Addr) (n c : Nat) (g : Nat → Int) (roll : Int) (hB : BlP roll n g) (w : World) (hA : Nums w w.heap.size A (n * 2) g) :
    Calls Try.prog 73 #[neV A n c roll] w fun e w' => e = .returned (.int .i64 (arI g n)) ∧ Below w.heap.size w w' := by
  have HA := Lib.hid hA
  have BX := Lib.hid (Bx.of w (neO A n c roll))
  have n9 := hB.1.2
  have SI := Lib.hid (fun t (ht : t ≤ n) => ar_in hB ht)
  have BI := Lib.hid (fun t (ht : t < n) => blk_in (hB.2 t ht))
  have RI := inb hB.1.1
  have S0 : Hid (arI g 0 = 0) := Lib.hid rfl
  have SS : Hid (∀ t, arI g (t + 1) = arI g t + g (t * 2) * g (t * 2 + 1)) := Lib.hid fun t => rfl
  clear hA hB
  generalize arI g = S at SI S0 SS ⊢
  go_enter Try.func73, Try.ntmps73
  go_upto_region 1 with fail
  generalize hw9 : World.alloc _ _ = w0 at BX ⊢
  clear hw9
  obtain ⟨z0, z1⟩ := blk2 BX.out.box
  go_wp2_with fail
  clear z0 z1
  go_loopw [3, 5, 9] (fun v _ i wr => ∃ k : Nat, k ≤ n ∧ v = .int .i64 (S k) ∧ i = .int .i64 (k : Int) ∧ Hid (Below w.heap.size w wr)) (fun _ _ i _ => n - (intOf i).toNat)
  case atStart => exact ⟨0, Nat.zero_le _, by rw [S0.out], rfl, Lib.hid BX.out.bel⟩
  case round =>
    obtain ⟨k, hk, rfl, rfl, HB⟩ := hrel
    have e0 : (0 : Int) ≤ (k : Int) := Int.natCast_nonneg _
    by_cases hlt : k < n
    · have e1 : (k : Int) < (n : Int) := by omega
      obtain ⟨b, off, rfl, hb, hc⟩ := (HA.out.below HB.out (Nat.le_refl _)) (by omega)
      obtain ⟨x0, x1⟩ := Blk.cells_at hc hlt
      have sk := SI.out k hk
      have bk := BI.out k hlt
      have HS := Lib.hid (SS.out k)
      have hk1 : k + 1 ≤ n := by omega
      generalize hS1 : S (k + 1) = s1 at HS
      generalize g (k * 2) = u0 at x0 HS bk
      generalize g (k * 2 + 1) = u1 at x1 HS bk
      generalize S k = s0 at *
      have CA := Lib.hid (fun w => iarea u0 u1 (by omega) (by omega) w)
      have hp := prod_in (show 0 ≤ u0 ∧ u0 ≤ 5000 by omega) (show 0 ≤ u1 ∧ u1 ≤ 5000 by omega)
      generalize u0 * u1 = p at CA HS hp
      have hw1 : IntKind.i64.wrap (s0 + p) = s0 + p := IntWalk.i64_in _ (by omega)
      have HX := Lib.hid (below_then HB.out (below_box wr (blO u0 u1)))
      have KB := Lib.hid (heap_alloc_new wr (blO u0 u1))
      clear hc SI BI SS HB
      go_upto_region 5 with fail
      generalize hw9 : World.alloc _ _ = w2 at HX KB ⊢
      clear hw9 x0 x1
      generalize wr.heap.size = gb at *
      obtain ⟨y0, y1⟩ := blk2 KB.out
      go_wp2_with fail
      refine (CA.out _).mono ?_
      rintro e w3 ⟨rfl, b3⟩
      have HX3 := Lib.hid (below_then HX.out b3)
      clear b3 HX KB y0 y1
      go_wp2_with fail
      go_roundw
      case rel => exact ⟨k + 1, hk1, by rw [hS1, HS.out], by go_num, HX3⟩
      case measure => simp [intOf]; omega
    · obtain rfl : k = n := by omega
      clear SI BI SS
      go_wp2_with fail
      go_ret
      exact ⟨rfl, HB.out⟩
/-- The blocks while a filling is made. -/
structure Fb (w wr : World) (f : Nat → Nat) : Prop where
  bel : Below w.heap.size w wr
  res : wr.heap[w.heap.size]? = some (flO fun _ => 0)
  fil : wr.heap[w.heap.size + 1]? = some (flO f)
set_option maxRecDepth 100000 in
set_option maxHeartbeats 4000000 in
theorem ifill (P : Option Addr) (m pc : Nat) (p : Nat → Int) (hm : m ≤ 9) (hP : ∀ j, j < m → 0 ≤ p j ∧ p j ≤ 8) (w : World) (hR : Nums w w.heap.size P m p) :
    Calls Try.prog 84 #[.slice P m pc] w fun e w' => e = .returned (flV fun k => rs p k m) ∧ Below w.heap.size w w' := by
  have HR := Lib.hid hR
  have BX : Hid (Fb w ((w.alloc (flO fun _ => 0)).alloc (flO fun _ => 0)) (fun k => rs p k 0)) := Lib.hid ⟨below2 w _ _, (two w (flO fun _ => 0) (flO fun _ => 0)).1, (two w (flO fun _ => 0) (flO fun _ => 0)).2⟩
  have HP := Lib.hid hP
  have SY : Hid (∀ t z : Nat, p t = (z : Int) → (fun k => rs p k (t + 1)) = fun j => if j = z then rs p z t ||| 2 ^ t else rs p j t) := Lib.hid fun t z h => by
    funext j
    show (if p t = (j : Int) then rs p j t ||| 2 ^ t else rs p j t) = _
    by_cases e : j = z
    · subst e; rw [if_pos h, if_pos rfl]
    · rw [if_neg e, if_neg (by omega)]
  have SL := Lib.hid (fun k t (ht : t ≤ m) => rs_lt p k (t := t) (by omega))
  have CW := Lib.hid (fun x t (hx : x < 512) (ht : t < 9) w => iwith x t hx ht w)
  clear hR hP
  go_enter Try.func84, Try.ntmps84
  go_upto_region 2 with fail
  generalize hw9 : World.alloc _ _ = w0 at BX ⊢
  clear hw9
  go_wp2_with fail
  go_loopw [4, 5, 8] (fun _ _ i wr => ∃ t : Nat, t ≤ m ∧ i = .int .i64 (t : Int) ∧ Hid (Fb w wr (fun k => rs p k t))) (fun _ _ i _ => m - (intOf i).toNat)
  case atStart => exact ⟨0, Nat.zero_le _, rfl, BX⟩
  case round =>
    obtain ⟨t, ht, rfl, HB⟩ := hrel
    have e0 : (0 : Int) ≤ (t : Int) := Int.natCast_nonneg _
    by_cases hlt : t < m
    · have e1 : (t : Int) < (m : Int) := by omega
      obtain ⟨b, off, rfl, hb, hc⟩ := (HR.out.below HB.out.bel (Nat.le_refl _)) (by omega)
      have x0 := hc t hlt
      obtain ⟨z, hz⟩ : ∃ z : Nat, p t = (z : Int) := ⟨(p t).toNat, by have := HP.out t hlt; omega⟩
      have hz9 : z < 9 := by have := HP.out t hlt; omega
      have z0 : (0 : Int) ≤ (z : Int) := Int.natCast_nonneg _
      have z8 : (z : Int) ≤ 8 := by omega
      have HS := Lib.hid (SY.out t z hz)
      rw [hz] at x0
      have CK := Lib.hid (CW.out (rs p z t) t (SL.out z t ht) (by omega))
      have y0 := fl_cell HB.out.fil hz9
      have hfr := blk_free HB.out.fil z
      have ht1 : t + 1 ≤ m := by omega
      have HF : Hid (∀ x : Nat, Fb w (wr.setCell ⟨w.heap.size + 1, z, none⟩ (.int .u16 (x : Int))) fun j => if j = z then x else rs p j t) := Lib.hid fun x => ⟨HB.out.bel.setCell (p := ⟨w.heap.size + 1, z, none⟩) (Nat.le_succ _) _, (Below.heap_setCell _ _ _ _ (by show w.heap.size ≠ w.heap.size + 1; omega)).trans HB.out.res, fl_set HB.out.fil hz9 x⟩
      have HG := Lib.hid (HF.out (rs p z t ||| 2 ^ t))
      clear hc hz HP SY CW SL HB HF
      generalize rs p z t ||| 2 ^ t = x1 at CK HG HS
      generalize rs p z t = x2 at y0 CK
      go_wp2_with fail
      refine (CK.out _).mono ?_
      rintro e w3 ⟨rfl, rfl⟩
      go_wp2_with fail
      go_roundw
      case rel => exact ⟨t + 1, ht1, by go_num, by rw [HS.out]; exact HG⟩
      case measure => simp [intOf]; omega
    · obtain rfl : t = m := by omega
      have hfr := blk_free HB.out.res
      obtain ⟨z0, z1, z2, z3, z4, z5, z6, z7, z8⟩ := blk9 HB.out.fil
      obtain ⟨y0, y1, y2, y3, y4, y5, y6, y7, y8⟩ := blk9 HB.out.res
      have HQ := Lib.hid HB.out.bel
      clear SY CW SL HB
      go_wp2_with fail
      refine bodyPost_ret (v := flV fun k => rs p k t) (by simp [results, Try.results84, go_sem, y0, y1, y2, y3, y4, y5, y6, y7, y8]) rfl ⟨rfl, ?_⟩
      with_reducible exact below9 HQ.out (Nat.le_refl _) _ _ _ _ _ _ _ _ _
end Go.Proofs.Ytgclhkiiaclkgab.Pc
