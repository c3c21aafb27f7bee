/- The middle of feet: the spec's and the program's; both functions MiddleFoot. -/
import Derived.Test.YtoincfhhafpekaaMdLib
namespace Go.Proofs.Ytoincfhhafpekaa.Me
open Go.RowKit Ft Fs Ld Is Fc Cl Ms Md

/-- The middle of measure j. -/
def md (n : Nat) (F : Nat → Nat → Int) (j : Nat) : Int := mid (fun i => F i j) n
theorem step_put {d f : Nat → Int} {wr : World} {g k : Nat} {u : Value} (h : ∀ j, j < 4 → wr.cell? ⟨g, j, none⟩ = some (.int .i64 (if j < k then d j else f j))) (x0 : wr.cell? ⟨g, k, none⟩ = some u) :
    ∀ j, j < 4 → (wr.setCell ⟨g, k, none⟩ (.int .i64 (d k))).cell? ⟨g, j, none⟩ = some (.int .i64 (if j < k + 1 then d j else f j)) := by
  intro j hj
  by_cases e : j = k
  · subst e
    rw [if_pos (by omega)]
    exact World.cell?_setCell_same _ _ _ x0
  · have h' := h j hj
    have e' : (if j < k + 1 then d j else f j) = (if j < k then d j else f j) := by
      by_cases hjk : j < k
      · rw [if_pos hjk, if_pos (by omega)]
      · rw [if_neg hjk, if_neg (by omega)]
    rw [e', ← h']
    exact World.cell?_setCell_other _ _ _ _ (show (⟨g, k, none⟩ : Addr) ≠ ⟨g, j, none⟩ from fun q => e (Addr.mk.inj q).2.1.symm)
theorem zero4 (w : World) (t : TypeId) : ∀ j, j < 4 → (w.alloc (.cells #[.int .i64 0, .int .i64 0, .int .i64 0, .int .i64 0] t)).cell? ⟨w.heap.size, j, none⟩ = some (.int .i64 0) := fun j hj => by
  rw [cell_of_row _ _ _ _ _ (0, 0) (heap_alloc_new _ _)]
  obtain rfl | rfl | rfl | rfl : j = 0 ∨ j = 1 ∨ j = 2 ∨ j = 3 := by omega
  all_goals rfl

set_option maxRecDepth 100000 in
theorem spec_mid (A : Option Addr) (n c : Nat) (F : Nat → Nat → Int) (hn : n ≤ 1048576) (h0 : 0 < n) (w : World) (hA : Ints w w.heap.size 4 A n F) :
    Calls Try.prog 61 #[.slice A n c] w fun e w' => e = .returned (.agg #[.int .i64 (md n F 0), .int .i64 (md n F 1), .int .i64 (md n F 2), .int .i64 (md n F 3)]) ∧ Below w.heap.size w w' := by
  obtain ⟨i0, hi0, hz0, hz1, hz2⟩ := info_parts info_int
  have HI := Lib.hid (And.intro hi0 (And.intro hz0 (And.intro hz1 hz2)))
  clear hi0 hz0 hz1 hz2
  have HA := Lib.hid hA
  clear hA
  go_enter Try.func61, Try.ntmps61
  go_wp2_with fail
  have KZ1 := Lib.hid (heap_alloc_new w (.cells #[.int .i64 0, .int .i64 0, .int .i64 0, .int .i64 0] 25))
  have HB1 := Lib.hid (below_box w (.cells #[.int .i64 0, .int .i64 0, .int .i64 0, .int .i64 0] 25))
  have hsz : (w.alloc (.cells #[.int .i64 0, .int .i64 0, .int .i64 0, .int .i64 0] 25)).heap.size = w.heap.size + 1 := by simp
  generalize w.alloc (.cells #[.int .i64 0, .int .i64 0, .int .i64 0, .int .i64 0] 25) = w1 at KZ1 HB1 hsz ⊢
  rw [← hsz]
  clear hsz
  go_loopw [3, 4] (fun o m wr => ∃ (k : Nat) (v : Value), k ≤ 4 ∧ v = o ∧ m = .int .i64 k ∧ Below w1.heap.size w1 wr ∧ Hid (wr.ownsRow w1.heap.size 2 1 v k (upto (md n F) k))) (fun _ m _ => 4 - (intOf m).toNat)
  case atStart => exact ⟨0, _, by omega, rfl, rfl, below_box _ _, Lib.hid (World.ownsRow_made w1 #[] 0 (Nat.le_refl _) (by simp [maxLen]) rfl)⟩
  case round =>
    obtain ⟨k, v, hk, rfl, rfl, hb', hown⟩ := hrel
    have HBk := Lib.hid hb'
    have HAk := Lib.hid ((HA.out.below (below_then HB1.out hb') (Nat.le_refl _)).more (below_then HB1.out hb').size)
    clear hb'
    by_cases hlt : k < 4
    · go_wp2_with fail
      refine (spec_col A n c k F hn hlt _ HAk.out).mono ?_
      rintro e w2 ⟨A2, cap2, rfl, O2, b2⟩
      have HB2 := Lib.hid (HBk.out.trans (b2.mono HBk.out.size))
      have HO := Lib.hid (row_below hown.out b2)
      have HN := Lib.hid O2.out.nums
      clear b2 O2 HBk
      go_wp2_with fail
      refine (smid_any A2 n cap2 _ hn h0 _ HN.out).mono ?_
      rintro e w3 ⟨rfl, b3⟩
      have HB3 := Lib.hid (HB2.out.trans (b3.mono HB2.out.size))
      have HO3 := Lib.hid (row_below HO.out b3)
      have hz3 := HB3.out.size
      have HS : Hid (md n F k = mid (fun i => F i k) n) := Lib.hid rfl
      generalize mid (fun i => F i k) n = x at HS
      clear b3 HB2 HO HN
      go_wp2_with (at_builtin; refine wpList_append_own _ rfl _ _ 33 rfl w1.heap.size 2 i0 _ 1 8 Try.underlying33 HI.out.1 HI.out.2.1 HI.out.2.2.1 HI.out.2.2.2 rfl (by decide) _ _ _ rfl (HO3.out.alloc _) ⟨w3.heap.size, 0, none⟩ 1 1 [.int .i64 x] rfl rfl ?c1 ?c2 ?c3 ?c4 ?c5 ?_)
      case c1 => exact cell_one_new _ _ _
      case c2 => simp [Value.oneCell']
      case c3 => unfold maxLen; omega
      case c4 => omega
      case c5 => first | omega | (simp <;> omega)
      intro v' w4 hown4 hgrow _
      have HQ := Lib.hid ((HB3.out.alloc hz3 _).grown hgrow (by simp; omega) fun g hg => (HO3.out.lt g hg).1)
      have HO4 : Hid (w4.ownsRow w1.heap.size 2 1 v' (k + 1) (upto (md n F) (k + 1))) := Lib.hid (by rw [upto_snoc, HS.out]; exact hown4)
      clear hown4 hgrow
      go_wp2_with fail
      go_roundw
      case rel => exact ⟨k + 1, _, by omega, rfl, by go_num, HQ.out, HO4⟩
      case measure => simp [intOf]; omega
    · obtain rfl : k = 4 := by omega
      obtain ⟨g, cap, rfl, hge, hlg⟩ := hown.out.form (by omega)
      have hc : ∀ j, j < 4 → wr.cell? ⟨g, j, none⟩ = some (.int .i64 (md n F j)) := fun j hj => (hown.out.cellAt j (by omega)).trans (upto_get (md n F) hj)
      have C := Lib.hid (of_any _ _ _ _ g cap wr (hc 0 (by omega)) (hc 1 (by omega)) (hc 2 (by omega)) (hc 3 (by omega)))
      clear hc
      go_wp2_with fail
      refine C.out.mono ?_
      rintro e w6 ⟨rfl, b6⟩
      have KZ6 := Lib.hid (blk_keep b6 (blk_keep HBk.out KZ1.out))
      have HB6 := Lib.hid (below_then HB1.out (below_then HBk.out b6))
      obtain ⟨z0, z1, z2, z3⟩ := blk4 KZ6.out
      have hfr := blk_free KZ6.out
      clear b6
      go_wp2_with fail
      exact bodyPost_ret (v := .agg #[.int .i64 (md n F 0), .int .i64 (md n F 1), .int .i64 (md n F 2), .int .i64 (md n F 3)]) (by simp [results, Try.results61, go_sem, z0, z1, z2, z3]) rfl
        ⟨rfl, (((HB6.out.setCell (by simp) _).setCell (by simp) _).setCell (by simp) _).setCell (by simp) _⟩

set_option maxRecDepth 100000 in
theorem impl_mid (A : Option Addr) (n c : Nat) (F : Nat → Nat → Int) (hn : n ≤ 1048576) (h0 : 0 < n) (w : World) (hA : Ints w w.heap.size 4 A n F) :
    Calls Try.prog 63 #[.slice A n c] w fun e w' => e = .returned (.agg #[.int .i64 (md n F 0), .int .i64 (md n F 1), .int .i64 (md n F 2), .int .i64 (md n F 3)]) ∧ Below w.heap.size w w' := by
  have HA := Lib.hid hA
  clear hA
  go_enter Try.func63, Try.ntmps63
  go_wp2_with fail
  have KZ1 := Lib.hid (heap_alloc_new w (.cells #[.int .i64 0, .int .i64 0, .int .i64 0, .int .i64 0] 25))
  have HB1 := Lib.hid (below_box w (.cells #[.int .i64 0, .int .i64 0, .int .i64 0, .int .i64 0] 25))
  have hsz : (w.alloc (.cells #[.int .i64 0, .int .i64 0, .int .i64 0, .int .i64 0] 25)).heap.size = w.heap.size + 1 := by simp
  generalize w.alloc (.cells #[.int .i64 0, .int .i64 0, .int .i64 0, .int .i64 0] 25) = w1 at KZ1 HB1 hsz ⊢
  rw [← hsz]
  clear hsz
  have HL : Hid (Below w1.heap.size w1 (w1.alloc (.cells #[.int .i64 0, .int .i64 0, .int .i64 0, .int .i64 0] 119)) ∧ (∀ j, j < 4 → (w1.alloc (.cells #[.int .i64 0, .int .i64 0, .int .i64 0, .int .i64 0] 119)).cell? ⟨w1.heap.size, j, none⟩ = some (.int .i64 0)) ∧ (∀ i, (w1.alloc (.cells #[.int .i64 0, .int .i64 0, .int .i64 0, .int .i64 0] 119)).frozen? ⟨w1.heap.size, i, none⟩ = false) ∧ w1.heap.size < (w1.alloc (.cells #[.int .i64 0, .int .i64 0, .int .i64 0, .int .i64 0] 119)).heap.size) :=
    Lib.hid ⟨below_box _ _, zero4 _ _, fun i => by simp, by simp⟩
  generalize w1.alloc (.cells #[.int .i64 0, .int .i64 0, .int .i64 0, .int .i64 0] 119) = wl at HL ⊢
  go_loopw [4, 5] (fun _ m wr => ∃ k : Nat, k ≤ 4 ∧ m = .int .i64 k ∧ Below w1.heap.size w1 wr ∧ w1.heap.size < wr.heap.size ∧ Hid (∀ j, j < 4 → wr.cell? ⟨w1.heap.size, j, none⟩ = some (.int .i64 (if j < k then md n F j else 0))) ∧
    Hid (∀ i, wr.frozen? ⟨w1.heap.size, i, none⟩ = false)) (fun _ m _ => 4 - (intOf m).toNat)
  case atStart => exact ⟨0, by omega, rfl, HL.out.1, HL.out.2.2.2, Lib.hid fun j hj => by rw [if_neg (by omega)]; exact HL.out.2.1 j hj, Lib.hid HL.out.2.2.1⟩
  case round =>
    obtain ⟨k, hk, rfl, hb', hs', cd, fd⟩ := hrel
    have HBk := Lib.hid hb'
    have HAk := Lib.hid ((HA.out.below (below_then HB1.out hb') (Nat.le_refl _)).more (below_then HB1.out hb').size)
    clear hb'
    by_cases hlt : k < 4
    · go_wp2_with fail
      refine (impl_col A n c k F hn hlt _ HAk.out).mono ?_
      rintro e w2 ⟨A2, cap2, rfl, O2, b2⟩
      have HB2 := Lib.hid (HBk.out.trans (b2.mono HBk.out.size))
      have hs2 : w1.heap.size < w2.heap.size := by have := b2.size; omega
      have cd2 : Hid (∀ j, j < 4 → w2.cell? ⟨w1.heap.size, j, none⟩ = some (.int .i64 (if j < k then md n F j else 0))) := Lib.hid fun j hj => (b2.cell (p := ⟨w1.heap.size, j, none⟩) hs').trans (cd.out j hj)
      have fd2 : Hid (∀ i, w2.frozen? ⟨w1.heap.size, i, none⟩ = false) := Lib.hid fun i => (b2.frozen (p := ⟨w1.heap.size, i, none⟩) hs').trans (fd.out i)
      have HN := Lib.hid O2.out.nums
      clear b2 O2 hs' HBk
      go_wp2_with fail
      refine (imid_any A2 n cap2 _ hn h0 _ HN.out).mono ?_
      rintro e w3 ⟨rfl, b3⟩
      have HB3 := Lib.hid (HB2.out.trans (b3.mono HB2.out.size))
      have hs3 : w1.heap.size < w3.heap.size := by have := b3.size; omega
      have cd3 : Hid (∀ j, j < 4 → w3.cell? ⟨w1.heap.size, j, none⟩ = some (.int .i64 (if j < k then md n F j else 0))) := Lib.hid fun j hj => (b3.cell (p := ⟨w1.heap.size, j, none⟩) hs2).trans (cd2.out j hj)
      have fd3 : Hid (∀ i, w3.frozen? ⟨w1.heap.size, i, none⟩ = false) := Lib.hid fun i => (b3.frozen (p := ⟨w1.heap.size, i, none⟩) hs2).trans (fd2.out i)
      clear b3 cd2 fd2 hs2
      have HS : Hid (md n F k = mid (fun i => F i k) n) := Lib.hid rfl
      have d0 : w3.cell? ⟨w1.heap.size, k, none⟩ = some (.int .i64 0) := by have := cd3.out k hlt; rw [if_neg (by omega)] at this; exact this
      have N6 := Lib.hid (step_put (d := md n F) (f := fun _ => 0) cd3.out d0)
      have z0 := fd3.out k
      generalize mid (fun i => F i k) n = x at HS
      rw [HS.out] at N6
      go_wp2_with fail
      have NB := Lib.hid (HB3.out.setCell (p := ⟨w1.heap.size, k, none⟩) (Nat.le_refl _) (.int .i64 x))
      have NF : Hid (∀ i, (w3.setCell ⟨w1.heap.size, k, none⟩ (.int .i64 x)).frozen? ⟨w1.heap.size, i, none⟩ = false) := Lib.hid fun i => (World.frozen?_setCell _ _ _ _).trans (fd3.out i)
      go_roundw
      case rel => exact ⟨k + 1, by omega, by go_num, NB.out, by simpa using hs3, N6, NF⟩
      case measure => simp [intOf]; omega
    · obtain rfl : k = 4 := by omega
      have d : ∀ j, j < 4 → wr.cell? ⟨w1.heap.size, j, none⟩ = some (.int .i64 (md n F j)) := fun j hj => by have := cd.out j hj; rw [if_pos hj] at this; exact this
      have d0 := d 0 (by omega)
      have d1 := d 1 (by omega)
      have d2 := d 2 (by omega)
      have d3 := d 3 (by omega)
      clear d
      go_wp2_with fail
      refine (back_any _ _ _ _ _).mono ?_
      rintro e w6 ⟨rfl, b6⟩
      have KZ6 := Lib.hid (blk_keep b6 (blk_keep HBk.out KZ1.out))
      have HB6 := Lib.hid (below_then HB1.out (below_then HBk.out b6))
      obtain ⟨z0, z1, z2, z3⟩ := blk4 KZ6.out
      have hfr := blk_free KZ6.out
      clear b6 d0 d1 d2 d3
      go_wp2_with fail
      exact bodyPost_ret (v := .agg #[.int .i64 (md n F 0), .int .i64 (md n F 1), .int .i64 (md n F 2), .int .i64 (md n F 3)]) (by simp [results, Try.results63, go_sem, z0, z1, z2, z3]) rfl
        ⟨rfl, (((HB6.out.setCell (by simp) _).setCell (by simp) _).setCell (by simp) _).setCell (by simp) _⟩
end Go.Proofs.Ytoincfhhafpekaa.Me
