/- A world in which one block alone has been written; the law's marks in a list of feet. -/
import Derived.Test.YtoincfhhafpekaaIsLib
import Derived.Test.YtoincfhhafpekaaFsLib
import Derived.Deep.Slices
import Derived.Deep.Fields
import Derived.ChangeSame
import Derived.Deep.DeepFit
namespace Go.Proofs.Ytoincfhhafpekaa.Bt
open Go.RowKit Go.ChangeShapes Go.WideShapes Go.Deep Ft Fs Is

/-- Block g alone has been written. -/
structure But (g : Nat) (w w' : World) : Prop where
  os : w'.os = w.os
  tape : w'.tape = w.tape
  output : w'.output = w.output
  size : w.heap.size ≤ w'.heap.size
  block : ∀ k, k < w.heap.size → k ≠ g → w'.heap[k]? = w.heap[k]?
theorem But.refl (g : Nat) (w : World) : But g w w := ⟨rfl, rfl, rfl, Nat.le_refl _, fun _ _ _ => rfl⟩
theorem But.trans {g : Nat} {a b c : World} (h : But g a b) (k : But g b c) : But g a c :=
  ⟨k.os.trans h.os, k.tape.trans h.tape, k.output.trans h.output, Nat.le_trans h.size k.size, fun j hj hn => (k.block j (Nat.lt_of_lt_of_le hj h.size) hn).trans (h.block j hj hn)⟩
theorem But.of_below {g : Nat} {w w' : World} (h : Below w.heap.size w w') : But g w w' := ⟨h.os, h.tape, h.output, h.size, fun k hk _ => h.block k hk⟩
theorem But.drew {g : Nat} {a w : World} (h : But g a w) : But g a w.drew := ⟨h.os, h.tape, h.output, h.size, h.block⟩
theorem But.setCell {g : Nat} {a w : World} (h : But g a w) (o : Nat) (u : Value) : But g a (w.setCell ⟨g, o, none⟩ u) :=
  ⟨h.os, h.tape, h.output, by simpa using h.size, fun k hk hn => (Below.heap_setCell _ _ _ _ hn).trans (h.block k hk hn)⟩
theorem But.below {g B : Nat} {w w' : World} (h : But g w w') (hB : B ≤ g) (hs : B ≤ w.heap.size) : Below B w w' := ⟨h.os, h.tape, h.output, h.size, fun k hk => h.block k (by omega) (by omega)⟩
theorem But.cell {g : Nat} {w w' : World} (h : But g w w') {b o : Nat} {v : Value} (hb : b ≠ g) (hc : w.cell? ⟨b, o, none⟩ = some v) : w'.cell? ⟨b, o, none⟩ = some v :=
  (World.cell?_of_block (h.block b (World.block_lt_of_cell? w _ hc) hb)).trans hc
theorem But.own {g B n : Nat} {w w' : World} {A : Option Addr} {f : Nat → Int} (h : But g w w') (ho : Own w B A n f) (hg : g < B) : Own w' B A n f := fun hn => by
  obtain ⟨b, off, rfl, hB, hlt, hc, hf⟩ := ho hn
  have hne : b ≠ g := by omega
  exact ⟨b, off, rfl, hB, Nat.lt_of_lt_of_le hlt h.size, fun i hi => h.cell hne (hc i hi), fun i => (World.frozen?_of_block (a := ⟨b, i, none⟩) (h.block b hlt hne)).trans (hf i)⟩
theorem But.nums {g B n : Nat} {w w' : World} {A : Option Addr} {f : Nat → Int} (h : But g w w') (ho : Nums w B A n f) (hg : B ≤ g) : Nums w' B A n f := fun hn => by
  obtain ⟨b, off, rfl, hB, hc⟩ := ho hn
  exact ⟨b, off, rfl, hB, fun i hi => h.cell (by omega) (hc i hi)⟩

set_option maxRecDepth 100000 in
theorem mark_feet (g n c : Nat) (t : TypeId) (arr : Array Value) (hn : n ≤ 1048576) (hs : arr.size = n * 4) (w : World) (hb : w.heap[g]? = some (.cells arr t (0, 0))) :
    Calls Try.prog 24 #[.slice (some ⟨g, 0, none⟩) n c, .int .i64 1] w fun e w' => e = .returned (.int .i64 (1 + 4 * (n : Int))) ∧ But g w w' := by
  have HB := Lib.hid hb
  have HS := Lib.hid hs
  clear hb hs
  go_enter Try.func24, Try.ntmps24
  go_wp2_with fail
  go_loopw [1, 5] (fun kk i wr => ∃ (j : Nat) (arr : Array Value), j ≤ n ∧ i = .int .i64 j ∧ kk = .int .i64 (1 + 4 * (j : Int)) ∧ But g w wr ∧ Hid (wr.heap[g]? = some (.cells arr t (0, 0))) ∧ Hid (arr.size = n * 4)) (fun _ i _ => n - (intOf i).toNat)
  case atStart => exact ⟨0, arr, Nat.zero_le _, rfl, by simp, But.refl _ _, HB, HS⟩
  case round =>
    clear HB HS
    obtain ⟨j, arr, hj, rfl, rfl, hbut, HB, HS⟩ := hrel
    have HT := Lib.hid hbut
    clear hbut
    by_cases hlt : j < n
    · have hold : ∀ q, q < 4 → ∃ v, wr.cell? ⟨g, j * 4 + q, none⟩ = some v := fun q hq => ⟨arr[j * 4 + q]'(by have := HS.out; omega), by
        rw [cell_of_row _ _ _ _ _ _ HB.out]; exact Array.getElem?_eq_getElem _⟩
      obtain ⟨v0, y0⟩ := hold 0 (by omega)
      obtain ⟨v1, y1⟩ := hold 1 (by omega)
      obtain ⟨v2, y2⟩ := hold 2 (by omega)
      obtain ⟨v3, y3⟩ := hold 3 (by omega)
      simp only [Nat.add_zero] at y0
      have hfr : ∀ i, wr.frozen? ⟨g, i, none⟩ = false := fun i => by simp [World.frozen?, HB.out]
      clear hold hj
      have e0 : (0 : Int) ≤ (j : Int) := Int.natCast_nonneg _
      have e1 : (j : Int) ≤ 1048576 := by omega
      go_wp2_with fail
      go_roundw
      case rel =>
        refine ⟨j + 1, _, by omega, by go_num, by go_num, ((((HT.out.setCell _ _).setCell _ _).setCell _ _).setCell _ _), Lib.hid (heap_set (heap_set (heap_set (heap_set HB.out _ _) _ _) _ _) _ _), Lib.hid (by simp [HS.out])⟩
      case measure => simp [intOf]; omega
    · obtain rfl : j = n := by omega
      go_wp2_with fail
      go_ret
      exact ⟨rfl, HT.out⟩
/-- What a copy leaves: a new row with the same numbers, and its block. -/
def Copied2 (w : World) (C n : Nat) (F : Nat → Nat → Int) (e : Ending) (w' : World) : Prop :=
  ∃ g, e = .returned (.slice (some ⟨g, 0, none⟩) n n) ∧ w.heap.size ≤ g ∧ g < w'.heap.size ∧ Below w.heap.size w w' ∧ (∀ i, i < n → ∀ j, j < C → w'.cell? ⟨g, i * C + j, none⟩ = some (.int .i64 (F i j))) ∧ ∃ arr, w'.heap[g]? = some (.cells arr 25 (0, 0)) ∧ arr.size = n * C
theorem to_feet2 (A : Option Addr) (n c : Nat) (F : Nat → Nat → Int) (hn : n ≤ 1048576) (w : World) (hA : Ints w w.heap.size 4 A n F) : Calls Try.prog 17 #[.slice A n c] w (Copied2 w 4 n F) := by
  obtain ⟨i0, hi, hz0, hz1, hz2⟩ := info_parts info_foot
  have hmk : (Instr.makeSlice 28 (.int .i64 (n : Int)) (.int .i64 (n : Int))).run Try.prog w = _ := run_make w _ _ i0 _ Try.underlying28 hi hz0 .i64 .i64 n n (by omega) (by omega) (by rw [hz2]; omega) (by omega)
  rw [hz1] at hmk
  simp only [Int.toNat_natCast] at hmk
  have HA := Lib.hid hA
  clear hA hz0 hz1 hz2 hi
  go_enter Try.func17, Try.ntmps17
  go_wp2_with fail
  clear hmk
  go_loopw [4] (fun i wr => ∃ (k : Nat) (arr : Array Value), k ≤ n ∧ i = .int .i64 k ∧ Below w.heap.size w wr ∧ Hid (wr.heap[w.heap.size]? = some (.cells arr 25 (0, 0))) ∧ Hid (arr.size = n * 4) ∧ Hid (∀ i, i < k → ∀ j, j < 4 → arr[i * 4 + j]? = some (.int .i64 (F i j)))) (fun i _ => n - (intOf i).toNat)
  case atStart => exact ⟨0, _, Nat.zero_le _, rfl, below_box _ _, Lib.hid (heap_alloc_new _ _), Lib.hid (size_madeCells _ _), Lib.hid fun i hi => by omega⟩
  case round =>
    obtain ⟨k, arr, hk, rfl, hbel, hblk, hsz, hall⟩ := hrel
    by_cases hlt : k < n
    · obtain ⟨b, off, rfl, hb, hc⟩ := HA.out.2.2 (by omega)
      have hcell : ∀ j, j < 4 → wr.cell? ⟨b, off + (k * 4 + j), none⟩ = some (.int .i64 (F k j)) := fun j hj => (hbel.cell (p := ⟨b, off + (k * 4 + j), none⟩) hb).trans (hc k hlt j hj)
      have x0 : wr.cell? ⟨b, off + k * 4, none⟩ = some (.int .i64 (F k 0)) := hcell 0 (by omega)
      have x1 : wr.cell? ⟨b, off + k * 4 + 1, none⟩ = some (.int .i64 (F k 1)) := hcell 1 (by omega)
      have x2 : wr.cell? ⟨b, off + k * 4 + 2, none⟩ = some (.int .i64 (F k 2)) := hcell 2 (by omega)
      have x3 : wr.cell? ⟨b, off + k * 4 + 3, none⟩ = some (.int .i64 (F k 3)) := hcell 3 (by omega)
      clear hk
      have HB := Lib.hid hbel
      clear hbel
      clear hcell
      clear hc
      go_wp2_with fail
      refine (to_any _ _ _ _ _).mono ?_
      rintro e w1 ⟨rfl, b1⟩
      have hg : w.heap.size < wr.heap.size := lt_of_heap hblk.out
      have hblk1 := Lib.hid ((b1.block w.heap.size hg).trans hblk.out)
      have hb1 := Lib.hid (HB.out.trans (b1.mono HB.out.size))
      have hold : ∀ j, j < 4 → ∃ v, w1.cell? ⟨w.heap.size, k * 4 + j, none⟩ = some v := fun j hj => ⟨arr[k * 4 + j]'(by have := hsz.out; omega), by
        rw [cell_of_row _ _ _ _ _ _ hblk1.out]; exact Array.getElem?_eq_getElem _⟩
      obtain ⟨v0, y0⟩ := hold 0 (by omega)
      obtain ⟨v1, y1⟩ := hold 1 (by omega)
      obtain ⟨v2, y2⟩ := hold 2 (by omega)
      obtain ⟨v3, y3⟩ := hold 3 (by omega)
      simp only [Nat.add_zero] at y0
      have hfr : ∀ i, w1.frozen? ⟨w.heap.size, i, none⟩ = false := fun i => by simp [World.frozen?, hblk1.out]
      clear hold x0 x1 x2 x3 b1 hg
      go_wp2_with fail
      have e4 := Lib.hid (set4 hsz.out hlt hall.out)
      go_roundw
      case rel =>
        refine ⟨k + 1, _, by omega, by go_num, ?_, Lib.hid (heap_set (heap_set (heap_set (heap_set hblk1.out _ _) _ _) _ _) _ _), Lib.hid (by simp [hsz.out]), e4⟩
        exact (((hb1.out.setCell (Nat.le_refl _) _).setCell (Nat.le_refl _) _).setCell (Nat.le_refl _) _).setCell (Nat.le_refl _) _
      case measure => simp [intOf]; omega
    · have hkn : k = n := by omega
      subst hkn
      have hfin : Copied2 w 4 k F (.returned (.slice (some ⟨w.heap.size, 0, none⟩) k k)) wr := ⟨_, rfl, Nat.le_refl _, lt_of_heap hblk.out, hbel, fun i hi j hj => (cell_of_row _ _ _ _ _ _ hblk.out).trans (hall.out i hi j hj), arr, hblk.out, hsz.out⟩
      have HF := Lib.hid hfin
      clear hfin hbel
      go_wp2_with fail
      go_ret
      exact HF.out

end Go.Proofs.Ytoincfhhafpekaa.Bt
