/- How a last must fit: the law's copy, measure and comparison of it; whether it is valid (spec and program). -/
import Derived.Test.YtgclhkiiaclkgabGeLib
import Derived.Test.YtgclhkiiaclkgabIsLib
import Derived.Test.YtgclhkiiaclkgabQbLib
import Derived.ChangeSlices
import Derived.Deep.Slices
import Derived.ChangeSame
namespace Go.Proofs.Ytgclhkiiaclkgab.Fi
open Go.RowKit Go.ChangeShapes Go.WideShapes Ft Is Ge Qb

theorem nums_of_trod {H : Type} {enc : TypeId × Value → H} {P : Program} {w : World} {t e : TypeId} {fuel : Nat} {cs : List Value} {x : DataW H × List MemPlace}
    (ht : P.underlying t = some (.slice e)) (he : P.underlying e = some (.int .i64)) (hC : P.cellsOf e = 1) (h : DataW.trod enc P w 0 (fun _ => true) true fuel t cs = some x) :
    ∃ A n c f, cs = [.slice A n c] ∧ n ≤ maxLen ∧ (∀ i, i < n → (Lit.int .i64 (f i)).wf = true) ∧ Nums w w.heap.size A n f := by
  rcases open_ints ht he hC h with ⟨rfl, _⟩ | ⟨a, n, c, zs, rfl, _, hl, hm, hz, _, hcell, hwf⟩
  · exact ⟨none, 0, 0, fun _ => 0, rfl, by simp [maxLen], fun i hi => by omega, fun h => by omega⟩
  · refine ⟨some a, n, c, fun i => zs.getD i 0, rfl, by omega, fun i hi => ?_, fun hn => ?_⟩
    · have hlen : n ≤ zs.length := by rw [hz]; split <;> omega
      have e : zs.getD i 0 = zs[i]'(by omega) := by simp [List.getD, show i < zs.length by omega]
      show (Lit.int .i64 (zs.getD i 0)).wf = true
      rw [e]
      exact hwf _ (List.getElem_mem _)
    · have hlen : n ≤ zs.length := by rw [hz]; split <;> omega
      have h0 := hcell 0 (by omega)
      have hsp := World.cell?_spot h0
      have hlt := World.block_lt_of_cell? w _ h0
      obtain ⟨b, off, spot⟩ := a
      have hspot : spot = none := by simpa [Addr.add] using hsp
      subst hspot
      exact ⟨b, off, rfl, by simpa [Addr.add] using hlt, fun i hi => by
        have := hcell i (by omega)
        rw [Ge.add_eq] at this
        exact this⟩

set_option maxRecDepth 100000 in
/-- The law's copy of numbers. -/
theorem to_ints (A : Option Addr) (n c : Nat) (f : Nat → Int) (hn : n ≤ 1048576) (w : World) (hA : Nums w w.heap.size A n f) :
    Calls Try.prog 23 #[.slice A n c] w fun e w' => ∃ g, e = .returned (.slice (some ⟨g, 0, none⟩) n n) ∧ w.heap.size ≤ g ∧ Hid (At w' g n f) ∧ Below w.heap.size w w' := by
  obtain ⟨i0, hi, hz0, hz1, hz2⟩ := info_parts info_int
  have hmk : (Instr.makeSlice 30 (.int .i64 (n : Int)) (.int .i64 (n : Int))).run Try.prog w = _ := run_make w _ _ i0 _ Try.underlying30 hi hz0 .i64 .i64 n n (by omega) (by omega) (by rw [hz2]; omega) (by omega)
  rw [hz1] at hmk
  simp only [Int.toNat_natCast] at hmk
  have HA := Lib.hid hA
  clear hA hz0 hz1 hz2 hi
  go_enter Try.func23, Try.ntmps23
  go_wp2_with fail
  clear hmk
  go_loopw [4] (fun i wr => ∃ (k : Nat) (arr : Array Value), k ≤ n ∧ i = .int .i64 k ∧ Below w.heap.size w wr ∧ Hid (wr.heap[w.heap.size]? = some (.cells arr 2 (0, 0))) ∧ Hid (arr.size = n * 1) ∧ Hid (∀ i, i < k → arr[i]? = some (.int .i64 (f i)))) (fun i _ => n - (intOf i).toNat)
  case atStart => exact ⟨0, _, Nat.zero_le _, rfl, below_box _ _, Lib.hid (heap_alloc_new _ _), Lib.hid (by rw [size_madeCells, Nat.mul_one]), Lib.hid fun i hi => by omega⟩
  case round =>
    obtain ⟨k, arr, hk, rfl, hbel, hblk, hsz, hall⟩ := hrel
    have HB := Lib.hid hbel
    by_cases hlt : k < n
    · obtain ⟨b, off, rfl, hb, hc⟩ := HA.out (by omega)
      have x0 : wr.cell? ⟨b, off + k, none⟩ = some (.int .i64 (f k)) := (hbel.cell (p := ⟨b, off + k, none⟩) hb).trans (hc k hlt)
      have hsk : k < arr.size := by have := hsz.out; omega
      have y0 : wr.cell? ⟨w.heap.size, k, none⟩ = some (arr[k]'hsk) := by
        rw [cell_of_row _ _ _ _ _ _ hblk.out]
        exact Array.getElem?_eq_getElem _
      generalize arr[k]'hsk = old at y0
      have z0 : wr.frozen? ⟨w.heap.size, k, none⟩ = false := blk_free hblk.out k
      clear hbel hc hb hk
      go_wp2_with fail
      go_roundw
      case rel =>
        refine ⟨k + 1, _, by omega, by go_num, HB.out.setCell (p := ⟨w.heap.size, k, none⟩) (Nat.le_refl _) _, Lib.hid (heap_set hblk.out _ _), Lib.hid (by simp [hsz.out]), Lib.hid fun i hi => ?_⟩
        rw [Array.getElem?_setIfInBounds]
        by_cases e : k = i
        · subst e
          rw [if_pos rfl, if_pos hsk]
        · rw [if_neg e]
          exact hall.out i (by omega)
      case measure => simp [intOf]; omega
    · obtain rfl : k = n := by omega
      clear hbel
      go_wp2_with fail
      go_ret
      exact ⟨w.heap.size, rfl, Nat.le_refl _, Lib.hid ⟨lt_of_heap hblk.out, fun i hi => (cell_of_row _ _ _ _ _ _ hblk.out).trans (hall.out i hi), fun i => blk_free hblk.out i⟩, HB.out⟩

theorem at_nums {w : World} {g n : Nat} {f : Nat → Int} (h : At w g n f) : Nums w w.heap.size (some ⟨g, 0, none⟩) n f := fun _ => ⟨g, 0, rfl, h.1, fun i hi => by rw [Nat.zero_add]; exact h.2.1 i hi⟩
/-- A struct of three numbers and a slice of numbers. -/
abbrev fitV (mn mx gi : Int) (A : Option Addr) (n c : Nat) : Value := .agg #[.int .i64 mn, .int .i64 mx, .int .i64 gi, .slice A n c]
/-- A fit that is valid. -/
def FitOk (mn mx gi : Int) (n : Nat) (f : Nat → Int) : Prop := (inB mx 0 500 = true ∧ inB mn 0 mx = true ∧ inB gi 0 500 = true ∧ n = 4) ∧ ∀ i, i < n → inB (f i) 0 100 = true
end Go.Proofs.Ytgclhkiiaclkgab.Fi
