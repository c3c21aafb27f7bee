/- The program's SpreadOf. -/
import Derived.Test.YtcnbnpeilkdfiaaDoorClLib
import Derived.Test.YtcnbnpeilkdfiaaDoorMxLib
namespace Go.Proofs.YtcnbnpeilkdfiaaDoor.Sp
open Go.RowKit Ft Fs Ld Is Fc Cl Mx

theorem mx_bd {f : Nat → Int} {a b : Int} : ∀ (k : Nat), (∀ i, i ≤ k → a ≤ f i ∧ f i ≤ b) → a ≤ mxTo f k ∧ mxTo f k ≤ b
  | 0, h => h 0 (Nat.le_refl _)
  | k + 1, h => by
    have := mx_bd k fun i hi => h i (by omega)
    have := h (k + 1) (Nat.le_refl _)
    unfold mxTo
    omega
theorem mn_bd {f : Nat → Int} {a b : Int} : ∀ (k : Nat), (∀ i, i ≤ k → a ≤ f i ∧ f i ≤ b) → a ≤ mnTo f k ∧ mnTo f k ≤ b
  | 0, h => h 0 (Nat.le_refl _)
  | k + 1, h => by
    have := mn_bd k fun i hi => h i (by omega)
    have := h (k + 1) (Nat.le_refl _)
    unfold mnTo
    omega
theorem okay_bd {n : Nat} {F : Nat → Nat → Int} (h : Okay n F) : ∀ j, j < 4 → ∀ i, i < n → 500 ≤ F i j ∧ F i j ≤ 5000 := fun j hj i hi => by
  have := h.2 i hi
  simp [ftAt, ftB, inB] at this
  obtain rfl | rfl | rfl | rfl : j = 0 ∨ j = 1 ∨ j = 2 ∨ j = 3 := by omega
  all_goals omega
/-- How far measures are apart. -/
def spr (n : Nat) (F : Nat → Nat → Int) (j : Nat) : Int := mxTo (fun i => F i j) (n - 1) - mnTo (fun i => F i j) (n - 1)
theorem step_put {d f : Nat → Int} {wr : World} {g k : Nat} {u : Value} (h : ∀ j, j < 4 → wr.cell? ⟨g, j, none⟩ = some (.int .i64 (if j < k then d j else f j))) (x0 : wr.cell? ⟨g, k, none⟩ = some u) :
    ∀ j, j < 4 → (wr.setCell ⟨g, k, none⟩ (.int .i64 (d k))).cell? ⟨g, j, none⟩ = some (.int .i64 (if j < k + 1 then d j else f j)) := by
  intro j hj
  by_cases e : j = k
  · subst e
    rw [if_pos (by omega)]
    exact World.cell?_setCell_same _ _ _ x0
  · have h' := h j hj
    have e' : (if j < k + 1 then d j else f j) = (if j < k then d j else f j) := by
      by_cases hjk : j < k
      · rw [if_pos hjk, if_pos (by omega)]
      · rw [if_neg hjk, if_neg (by omega)]
    rw [e', ← h']
    exact World.cell?_setCell_other _ _ _ _ (show (⟨g, k, none⟩ : Addr) ≠ ⟨g, j, none⟩ from fun q => e (Addr.mk.inj q).2.1.symm)
theorem zero4 (w : World) (t : TypeId) : ∀ j, j < 4 → (w.alloc (.cells #[.int .i64 0, .int .i64 0, .int .i64 0, .int .i64 0] t)).cell? ⟨w.heap.size, j, none⟩ = some (.int .i64 0) := fun j hj => by
  rw [cell_of_row _ _ _ _ _ (0, 0) (heap_alloc_new _ _)]
  obtain rfl | rfl | rfl | rfl : j = 0 ∨ j = 1 ∨ j = 2 ∨ j = 3 := by omega
  all_goals rfl

set_option maxRecDepth 100000 in
theorem impl_yes (A : Option Addr) (n c : Nat) (F : Nat → Nat → Int) (hn : n ≤ 1048576) (h0 : 0 < n) (ho : Okay n F) (w : World) (hA : Ints w w.heap.size 4 A n F) :
    Calls Tryd.prog 9 #[.slice A n c] w fun e w' => e = .returned (.tuple #[.agg #[.int .i64 (spr n F 0), .int .i64 (spr n F 1), .int .i64 (spr n F 2), .int .i64 (spr n F 3)], .int .i64 0]) ∧ Below w.heap.size w w' := by
  have HA := Lib.hid hA
  have HBd : Hid (∀ j, j < 4 → 500 ≤ mxTo (fun i => F i j) (n - 1) ∧ mxTo (fun i => F i j) (n - 1) ≤ 5000 ∧ 500 ≤ mnTo (fun i => F i j) (n - 1) ∧ mnTo (fun i => F i j) (n - 1) ≤ 5000) := Lib.hid fun j hj => by
    have b1 := mx_bd (f := fun i => F i j) (a := 500) (b := 5000) (n - 1) fun i hi => okay_bd ho j hj i (by omega)
    have b2 := mn_bd (f := fun i => F i j) (a := 500) (b := 5000) (n - 1) fun i hi => okay_bd ho j hj i (by omega)
    exact ⟨b1.1, b1.2, b2.1, b2.2⟩
  have HC : Hid (codeOf n F 0 = 0) := Lib.hid (by unfold codeOf; rw [if_neg (by simpa using ho), if_neg (by omega), if_neg (by omega)])
  clear hA ho
  go_enter Tryd.func9, Tryd.ntmps9
  go_wp2_with fail
  refine (impl_code A n c F 0 hn _ ((HA.out.below (below_box _ _) (Nat.le_refl _)).more (by simp))).mono ?_
  rw [HC.out]
  rintro e w1 ⟨rfl, b1⟩
  have HB1 := Lib.hid (below_then (below_box _ _) b1)
  have KZ1 := Lib.hid (blk_keep b1 (heap_alloc_new _ _))
  clear b1
  go_wp2_with fail
  have HL : Hid (Below w1.heap.size w1 (w1.alloc (.cells #[.int .i64 0, .int .i64 0, .int .i64 0, .int .i64 0] 59)) ∧ (∀ j, j < 4 → (w1.alloc (.cells #[.int .i64 0, .int .i64 0, .int .i64 0, .int .i64 0] 59)).cell? ⟨w1.heap.size, j, none⟩ = some (.int .i64 0)) ∧ (∀ i, (w1.alloc (.cells #[.int .i64 0, .int .i64 0, .int .i64 0, .int .i64 0] 59)).frozen? ⟨w1.heap.size, i, none⟩ = false) ∧ w1.heap.size < (w1.alloc (.cells #[.int .i64 0, .int .i64 0, .int .i64 0, .int .i64 0] 59)).heap.size) :=
    Lib.hid ⟨below_box _ _, zero4 _ _, fun i => by simp, by simp⟩
  generalize w1.alloc (.cells #[.int .i64 0, .int .i64 0, .int .i64 0, .int .i64 0] 59) = wl at HL ⊢
  go_loopw [6, 7, 14] (fun _ _ m wr => ∃ k : Nat, k ≤ 4 ∧ m = .int .i64 k ∧ Below w1.heap.size w1 wr ∧ w1.heap.size < wr.heap.size ∧ Hid (∀ j, j < 4 → wr.cell? ⟨w1.heap.size, j, none⟩ = some (.int .i64 (if j < k then spr n F j else 0))) ∧
    Hid (∀ i, wr.frozen? ⟨w1.heap.size, i, none⟩ = false)) (fun _ _ m _ => 4 - (intOf m).toNat)
  case atStart => exact ⟨0, by omega, rfl, HL.out.1, HL.out.2.2.2, Lib.hid fun j hj => by rw [if_neg (by omega)]; exact HL.out.2.1 j hj, Lib.hid HL.out.2.2.1⟩
  case round =>
    obtain ⟨k, hk, rfl, hb', hs', cd, fd⟩ := hrel
    have HBk := Lib.hid hb'
    have HAk := Lib.hid ((HA.out.below (below_then HB1.out hb') (Nat.le_refl _)).more (below_then HB1.out hb').size)
    clear hb'
    by_cases hlt : k < 4
    · go_wp2_with fail
      refine (impl_col A n c k F hn hlt _ HAk.out).mono ?_
      rintro e w2 ⟨A2, cap2, rfl, O2, b2⟩
      have HB2 := Lib.hid (HBk.out.trans (b2.mono HBk.out.size))
      have hs2 : w1.heap.size < w2.heap.size := by have := b2.size; omega
      have cd2 : Hid (∀ j, j < 4 → w2.cell? ⟨w1.heap.size, j, none⟩ = some (.int .i64 (if j < k then spr n F j else 0))) := Lib.hid fun j hj => (b2.cell (p := ⟨w1.heap.size, j, none⟩) hs').trans (cd.out j hj)
      have fd2 : Hid (∀ i, w2.frozen? ⟨w1.heap.size, i, none⟩ = false) := Lib.hid fun i => (b2.frozen (p := ⟨w1.heap.size, i, none⟩) hs').trans (fd.out i)
      have HN := Lib.hid O2.out.nums
      clear b2 O2 hs' HBk
      go_wp2_with fail
      refine (max_ints A2 n cap2 _ hn h0 _ _ HN.out).mono ?_
      rintro e wq ⟨rfl, rfl⟩
      go_wp2_with fail
      refine (min_ints A2 n cap2 _ hn h0 _ _ HN.out).mono ?_
      rintro e wq ⟨rfl, rfl⟩
      have hbd := HBd.out k hlt
      have HS : Hid (spr n F k = mxTo (fun i => F i k) (n - 1) - mnTo (fun i => F i k) (n - 1)) := Lib.hid rfl
      have d0 : w2.cell? ⟨w1.heap.size, k, none⟩ = some (.int .i64 0) := by have := cd2.out k hlt; rw [if_neg (by omega)] at this; exact this
      have N6 := Lib.hid (step_put (d := spr n F) (f := fun _ => 0) cd2.out d0)
      have z0 := fd2.out k
      generalize mxTo (fun i => F i k) (n - 1) = X at hbd HS ⊢
      generalize mnTo (fun i => F i k) (n - 1) = Y at hbd HS ⊢
      obtain ⟨p1, p2, p3, p4⟩ := hbd
      rw [HS.out] at N6
      go_wp2_with fail
      have NB := Lib.hid (HB2.out.setCell (p := ⟨w1.heap.size, k, none⟩) (Nat.le_refl _) (.int .i64 (X - Y)))
      have NF : Hid (∀ i, (w2.setCell ⟨w1.heap.size, k, none⟩ (.int .i64 (X - Y))).frozen? ⟨w1.heap.size, i, none⟩ = false) := Lib.hid fun i => (World.frozen?_setCell _ _ _ _).trans (fd2.out i)
      go_roundw
      case rel => exact ⟨k + 1, by omega, by go_num, NB.out, by simpa using hs2, N6, NF⟩
      case measure => simp [intOf]; omega
    · obtain rfl : k = 4 := by omega
      have d : ∀ j, j < 4 → wr.cell? ⟨w1.heap.size, j, none⟩ = some (.int .i64 (spr n F j)) := fun j hj => by have := cd.out j hj; rw [if_pos hj] at this; exact this
      have d0 := d 0 (by omega)
      have d1 := d 1 (by omega)
      have d2 := d 2 (by omega)
      have d3 := d 3 (by omega)
      have KZ5 := Lib.hid (blk_keep HBk.out KZ1.out)
      have HB5 := Lib.hid (below_then HB1.out HBk.out)
      clear d
      go_wp2_with fail
      refine (back_any _ _ _ _ _).mono ?_
      rintro e w6 ⟨rfl, b6⟩
      have KZ6 := Lib.hid (blk_keep b6 KZ5.out)
      have HB6 := Lib.hid (below_then HB5.out b6)
      obtain ⟨z0, z1, z2, z3⟩ := blk4 KZ6.out
      have hfr := blk_free KZ6.out
      clear b6 d0 d1 d2 d3
      go_wp2_with fail
      exact bodyPost_ret (v := .tuple #[.agg #[.int .i64 (spr n F 0), .int .i64 (spr n F 1), .int .i64 (spr n F 2), .int .i64 (spr n F 3)], .int .i64 0]) (by simp [results, Tryd.results9, go_sem, z0, z1, z2, z3]) rfl
        ⟨rfl, (((HB6.out.setCell (by simp) _).setCell (by simp) _).setCell (by simp) _).setCell (by simp) _⟩

theorem impl_no (A : Option Addr) (n c : Nat) (F : Nat → Nat → Int) (hn : n ≤ 1048576) (hc : (codeOf n F 0 != 0) = true) (w : World) (hA : Ints w w.heap.size 4 A n F) :
    Calls Tryd.prog 9 #[.slice A n c] w fun e w' => e = .returned (.tuple #[.agg #[.int .i64 0, .int .i64 0, .int .i64 0, .int .i64 0], .int .i64 (codeOf n F 0)]) ∧ Below w.heap.size w w' := by
  have HA := Lib.hid hA
  have C := Lib.hid (fun w h => impl_code A n c F 0 hn w h)
  clear hA
  generalize codeOf n F 0 = cd at hc C ⊢
  go_enter Tryd.func9, Tryd.ntmps9
  go_wp2_with fail
  refine (C.out _ ((HA.out.below (below_box _ _) (Nat.le_refl _)).more (by simp))).mono ?_
  rintro e w1 ⟨rfl, b1⟩
  have HB1 := Lib.hid (below_then (below_box _ _) b1)
  have KZ1 := Lib.hid (blk_keep b1 (heap_alloc_new _ _))
  obtain ⟨z0, z1, z2, z3⟩ := blk4 KZ1.out
  have hfr := blk_free KZ1.out
  clear b1
  go_wp2_with fail
  exact bodyPost_ret (v := .tuple #[.agg #[.int .i64 0, .int .i64 0, .int .i64 0, .int .i64 0], .int .i64 cd]) (by simp [results, Tryd.results9, go_sem, z0, z1, z2, z3]) rfl
    ⟨rfl, (((HB1.out.setCell (by simp) _).setCell (by simp) _).setCell (by simp) _).setCell (by simp) _⟩
end Go.Proofs.YtcnbnpeilkdfiaaDoor.Sp
