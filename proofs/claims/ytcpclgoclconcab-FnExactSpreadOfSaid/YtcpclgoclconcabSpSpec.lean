/- The spec's SpreadOf. -/
import Derived.Test.YtcpclgoclconcabSpImpl
namespace Go.Proofs.Ytcpclgoclconcab.Sp
open Go.RowKit Ft Fs Ld Is Fc Cl Mx

theorem min_any (a b : Int) (w : World) : Calls Try.prog 52 #[.int .i64 a, .int .i64 b] w fun e w' => e = .returned (.int .i64 (min a b)) ∧ w = w' := by
  by_cases h : a < b
  · have hm := Lib.hid (show min a b = a by omega)
    go_enter Try.func52, Try.ntmps52
    go_wp2
    go_ret
    exact ⟨by rw [hm.out]; rfl, rfl⟩
  · have hm := Lib.hid (show min a b = b by omega)
    go_enter Try.func52, Try.ntmps52
    go_wp2
    go_ret
    exact ⟨by rw [hm.out]; rfl, rfl⟩

set_option maxRecDepth 100000 in
theorem spec_yes (A : Option Addr) (n c : Nat) (F : Nat → Nat → Int) (hn : n ≤ 1048576) (h0 : 0 < n) (ho : Okay n F) (w : World) (hA : Ints w w.heap.size 4 A n F) :
    Calls Try.prog 30 #[.slice A n c] w fun e w' => e = .returned (.tuple #[.agg #[.int .i64 (spr n F 0), .int .i64 (spr n F 1), .int .i64 (spr n F 2), .int .i64 (spr n F 3)], .int .i64 0]) ∧ Below w.heap.size w w' := by
  obtain ⟨i0, hi0, hz0, hz1, hz2⟩ := info_parts info_int
  have HI := Lib.hid (And.intro hi0 (And.intro hz0 (And.intro hz1 hz2)))
  clear hi0 hz0 hz1 hz2
  have HA := Lib.hid hA
  have HBd : Hid (∀ j, j < 4 → 500 ≤ mxTo (fun i => F i j) (n - 1) ∧ mxTo (fun i => F i j) (n - 1) ≤ 5000 ∧ 500 ≤ mnTo (fun i => F i j) (n - 1) ∧ mnTo (fun i => F i j) (n - 1) ≤ 5000) := Lib.hid fun j hj => by
    have b1 := mx_bd (f := fun i => F i j) (a := 500) (b := 5000) (n - 1) fun i hi => okay_bd ho j hj i (by omega)
    have b2 := mn_bd (f := fun i => F i j) (a := 500) (b := 5000) (n - 1) fun i hi => okay_bd ho j hj i (by omega)
    exact ⟨b1.1, b1.2, b2.1, b2.2⟩
  have HC : Hid (codeOf n F 0 = 0) := Lib.hid (by unfold codeOf; rw [if_neg (by simpa using ho), if_neg (by omega), if_neg (by omega)])
  clear hA ho
  go_enter Try.func30, Try.ntmps30
  go_wp2_with fail
  refine (spec_code A n c F 0 hn _ ((HA.out.below (below_box _ _) (Nat.le_refl _)).more (by simp))).mono ?_
  rw [HC.out]
  rintro e w1 ⟨rfl, b1⟩
  have HB1 := Lib.hid (below_then (below_box _ _) b1)
  have KZ1 := Lib.hid (blk_keep b1 (heap_alloc_new _ _))
  clear b1
  go_wp2_with fail
  go_loopw [5, 6] (fun o m wr => ∃ (k : Nat) (v : Value), k ≤ 4 ∧ v = o ∧ m = .int .i64 k ∧ Below w1.heap.size w1 wr ∧ Hid (wr.ownsRow w1.heap.size 2 1 v k (upto (spr n F) k))) (fun _ m _ => 4 - (intOf m).toNat)
  case atStart => exact ⟨0, _, by omega, rfl, rfl, below_box _ _, Lib.hid (World.ownsRow_made w1 #[] 0 (Nat.le_refl _) (by simp [maxLen]) rfl)⟩
  case round =>
    obtain ⟨k, v, hk, rfl, rfl, hb', hown⟩ := hrel
    have HBk := Lib.hid hb'
    have HAk := Lib.hid ((HA.out.below (below_then HB1.out hb') (Nat.le_refl _)).more (below_then HB1.out hb').size)
    clear hb'
    by_cases hlt : k < 4
    · go_wp2_with fail
      refine (spec_col A n c k F hn hlt _ HAk.out).mono ?_
      rintro e w2 ⟨A2, cap2, rfl, O2, b2⟩
      have HB2 := Lib.hid (HBk.out.trans (b2.mono HBk.out.size))
      have HO := Lib.hid (row_below hown.out b2)
      have HN := Lib.hid O2.out.nums
      have hz2 := HB2.out.size
      clear b2 O2 HBk
      obtain ⟨b, off, rfl, hb, hc⟩ := HN.out h0
      have x0 : w2.cell? ⟨b, off, none⟩ = some (.int .i64 (F 0 k)) := hc 0 h0
      have HCell := Lib.hid hc
      have e1 : (0 : Int) < (n : Int) := by omega
      clear hc
      go_wp2_with fail
      clear x0
      have HX0 : Hid (mxTo (fun i => F i k) 0 = F 0 k) := Lib.hid rfl
      have HY0 : Hid (mnTo (fun i => F i k) 0 = F 0 k) := Lib.hid rfl
      have HXS : Hid (∀ q, mxTo (fun i => F i k) (q + 1) = max (mxTo (fun i => F i k) q) (F (q + 1) k)) := Lib.hid fun _ => rfl
      have HYS : Hid (∀ q, mnTo (fun i => F i k) (q + 1) = min (mnTo (fun i => F i k) q) (F (q + 1) k)) := Lib.hid fun _ => rfl
      have hbd := Lib.hid (HBd.out k hlt)
      have HS : Hid (spr n F k = mxTo (fun i => F i k) (n - 1) - mnTo (fun i => F i k) (n - 1)) := Lib.hid rfl
      generalize mxTo (fun i => F i k) = MX at HX0 HXS hbd HS
      generalize mnTo (fun i => F i k) = MN at HY0 HYS hbd HS
      go_loop [8, 9, 10] (fun l m i => ∃ q : Nat, q + 1 ≤ n ∧ i = .int .i64 ((q + 1 : Nat) : Int) ∧ l = .int .i64 (MN q) ∧ m = .int .i64 (MX q)) (fun _ _ i => n - (intOf i).toNat)
      case atStart => exact ⟨0, by omega, rfl, by rw [HY0.out], by rw [HX0.out]⟩
      case round =>
        obtain ⟨q, hq, rfl, rfl, rfl⟩ := hrel
        by_cases hlq : q + 1 < n
        · have x1 : w2.cell? ⟨b, off + (q + 1), none⟩ = some (.int .i64 (F (q + 1) k)) := HCell.out (q + 1) hlq
          have HXq := Lib.hid (HXS.out q)
          have HYq := Lib.hid (HYS.out q)
          generalize F (q + 1) k = y at x1 HXq HYq
          generalize MX q = mxq at HXq ⊢
          generalize MN q = mnq at HYq ⊢
          go_wp2_with (first | (go_at_call 52; refine (min_any _ _ _).mono ?_; rintro e wq ⟨rfl, rfl⟩) | (go_at_call 46; refine (max_any _ _ _).mono ?_; rintro e wq ⟨rfl, rfl⟩))
          go_round
          case rel => exact ⟨q + 1, by omega, by go_num, by rw [HYq.out], by rw [HXq.out]⟩
          case measure => simp [intOf]; omega
        · obtain rfl : n = q + 1 := by omega
          obtain ⟨p1, p2, p3, p4⟩ := hbd.out
          simp only [Nat.add_sub_cancel] at p1 p2 p3 p4
          have HS' : Hid (spr (q + 1) F k = MX q - MN q) := Lib.hid (by simpa using HS.out)
          generalize MX q = X at p1 p2 HS' ⊢
          generalize MN q = Y at p3 p4 HS' ⊢
          go_wp2_with (at_builtin; refine wpList_append_own _ rfl _ _ 33 rfl w1.heap.size 2 i0 _ 1 8 Try.underlying33 HI.out.1 HI.out.2.1 HI.out.2.2.1 HI.out.2.2.2 rfl (by decide) _ _ _ rfl (HO.out.alloc _) ⟨w2.heap.size, 0, none⟩ 1 1 [.int .i64 (X - Y)] rfl rfl ?c1 ?c2 ?c3 ?c4 ?c5 ?_)
          case c2 => simp [Value.oneCell']
          case c3 => unfold maxLen; omega
          case c4 => omega
          case c5 => first | omega | (simp <;> omega)
          intro v' w3 hown3 hgrow _
          have HQ := Lib.hid ((HB2.out.alloc hz2 _).grown hgrow (by simp; omega) fun g hg => (HO.out.lt g hg).1)
          have HO3 : Hid (w3.ownsRow w1.heap.size 2 1 v' (k + 1) (upto (spr (q + 1) F) (k + 1))) := Lib.hid (by rw [upto_snoc, HS'.out]; exact hown3)
          clear hown3 hgrow
          go_wp2_with fail
          go_roundw
          case rel => exact ⟨k + 1, _, by omega, rfl, by go_num, HQ.out, HO3⟩
          case measure => simp [intOf]; omega
    · obtain rfl : k = 4 := by omega
      obtain ⟨g, cap, rfl, hge, hlg⟩ := hown.out.form (by omega)
      have hc : ∀ j, j < 4 → wr.cell? ⟨g, j, none⟩ = some (.int .i64 (spr n F j)) := fun j hj => (hown.out.cellAt j (by omega)).trans (upto_get (spr n F) hj)
      have C := Lib.hid (of_any _ _ _ _ g cap wr (hc 0 (by omega)) (hc 1 (by omega)) (hc 2 (by omega)) (hc 3 (by omega)))
      have KZ5 := Lib.hid (blk_keep HBk.out KZ1.out)
      have HB5 := Lib.hid (below_then HB1.out HBk.out)
      clear hc
      go_wp2_with fail
      refine C.out.mono ?_
      rintro e w6 ⟨rfl, b6⟩
      have KZ6 := Lib.hid (blk_keep b6 KZ5.out)
      have HB6 := Lib.hid (below_then HB5.out b6)
      obtain ⟨z0, z1, z2, z3⟩ := blk4 KZ6.out
      have hfr := blk_free KZ6.out
      clear b6
      go_wp2_with fail
      exact bodyPost_ret (v := .tuple #[.agg #[.int .i64 (spr n F 0), .int .i64 (spr n F 1), .int .i64 (spr n F 2), .int .i64 (spr n F 3)], .int .i64 0]) (by simp [results, Try.results30, go_sem, z0, z1, z2, z3]) rfl
        ⟨rfl, (((HB6.out.setCell (by simp) _).setCell (by simp) _).setCell (by simp) _).setCell (by simp) _⟩

theorem spec_no (A : Option Addr) (n c : Nat) (F : Nat → Nat → Int) (hn : n ≤ 1048576) (hc : (codeOf n F 0 != 0) = true) (w : World) (hA : Ints w w.heap.size 4 A n F) :
    Calls Try.prog 30 #[.slice A n c] w fun e w' => e = .returned (.tuple #[.agg #[.int .i64 0, .int .i64 0, .int .i64 0, .int .i64 0], .int .i64 (codeOf n F 0)]) ∧ Below w.heap.size w w' := by
  have HA := Lib.hid hA
  have C := Lib.hid (fun w h => spec_code A n c F 0 hn w h)
  clear hA
  generalize codeOf n F 0 = cd at hc C ⊢
  go_enter Try.func30, Try.ntmps30
  go_wp2_with fail
  refine (C.out _ ((HA.out.below (below_box _ _) (Nat.le_refl _)).more (by simp))).mono ?_
  rintro e w1 ⟨rfl, b1⟩
  have HB1 := Lib.hid (below_then (below_box _ _) b1)
  have KZ1 := Lib.hid (blk_keep b1 (heap_alloc_new _ _))
  obtain ⟨z0, z1, z2, z3⟩ := blk4 KZ1.out
  have hfr := blk_free KZ1.out
  clear b1
  go_wp2_with fail
  exact bodyPost_ret (v := .tuple #[.agg #[.int .i64 0, .int .i64 0, .int .i64 0, .int .i64 0], .int .i64 cd]) (by simp [results, Try.results30, go_sem, z0, z1, z2, z3]) rfl
    ⟨rfl, (((HB1.out.setCell (by simp) _).setCell (by simp) _).setCell (by simp) _).setCell (by simp) _⟩
end Go.Proofs.Ytcpclgoclconcab.Sp
