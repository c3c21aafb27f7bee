/- How a last must fit: the law's copy, measure and comparison of it; whether it is valid (spec and program). -/
import Derived.Test.YtaoknbhpjnileaaGeLib
import Derived.Test.YtaoknbhpjnileaaIsLib
import Derived.Test.YtaoknbhpjnileaaQbLib
import Derived.ChangeSlices
import Derived.Deep.Slices
import Derived.ChangeSame
namespace Go.Proofs.Ytaoknbhpjnileaa.Fi
open Go.RowKit Go.ChangeShapes Go.WideShapes Ft Is Ge Qb

theorem nums_of_trod {H : Type} {enc : TypeId × Value → H} {P : Program} {w : World} {t e : TypeId} {fuel : Nat} {cs : List Value} {x : DataW H × List MemPlace}
    (ht : P.underlying t = some (.slice e)) (he : P.underlying e = some (.int .i64)) (hC : P.cellsOf e = 1) (h : DataW.trod enc P w 0 (fun _ => true) true fuel t cs = some x) :
    ∃ A n c f, cs = [.slice A n c] ∧ n ≤ maxLen ∧ (∀ i, i < n → (Lit.int .i64 (f i)).wf = true) ∧ Nums w w.heap.size A n f := by
  rcases open_ints ht he hC h with ⟨rfl, _⟩ | ⟨a, n, c, zs, rfl, _, hl, hm, hz, _, hcell, hwf⟩
  · exact ⟨none, 0, 0, fun _ => 0, rfl, by simp [maxLen], fun i hi => by omega, fun h => by omega⟩
  · refine ⟨some a, n, c, fun i => zs.getD i 0, rfl, by omega, fun i hi => ?_, fun hn => ?_⟩
    · have hlen : n ≤ zs.length := by rw [hz]; split <;> omega
      have e : zs.getD i 0 = zs[i]'(by omega) := by simp [List.getD, show i < zs.length by omega]
      show (Lit.int .i64 (zs.getD i 0)).wf = true
      rw [e]
      exact hwf _ (List.getElem_mem _)
    · have hlen : n ≤ zs.length := by rw [hz]; split <;> omega
      have h0 := hcell 0 (by omega)
      have hsp := World.cell?_spot h0
      have hlt := World.block_lt_of_cell? w _ h0
      obtain ⟨b, off, spot⟩ := a
      have hspot : spot = none := by simpa [Addr.add] using hsp
      subst hspot
      exact ⟨b, off, rfl, by simpa [Addr.add] using hlt, fun i hi => by
        have := hcell i (by omega)
        rw [Ge.add_eq] at this
        exact this⟩

set_option maxRecDepth 100000 in
/-- The law's copy of numbers. -/
theorem to_ints (A : Option Addr) (n c : Nat) (f : Nat → Int) (hn : n ≤ 1048576) (w : World) (hA : Nums w w.heap.size A n f) :
    Calls Try.prog 16 #[.slice A n c] w fun e w' => ∃ g, e = .returned (.slice (some ⟨g, 0, none⟩) n n) ∧ w.heap.size ≤ g ∧ Hid (At w' g n f) ∧ Below w.heap.size w w' := by
  obtain ⟨i0, hi, hz0, hz1, hz2⟩ := info_parts info_int
  have hmk : (Instr.makeSlice 22 (.int .i64 (n : Int)) (.int .i64 (n : Int))).run Try.prog w = _ := run_make w _ _ i0 _ Try.underlying22 hi hz0 .i64 .i64 n n (by omega) (by omega) (by rw [hz2]; omega) (by omega)
  rw [hz1] at hmk
  simp only [Int.toNat_natCast] at hmk
  have HA := Lib.hid hA
  clear hA hz0 hz1 hz2 hi
  go_enter Try.func16, Try.ntmps16
  go_wp2_with fail
  clear hmk
  go_loopw [4] (fun i wr => ∃ (k : Nat) (arr : Array Value), k ≤ n ∧ i = .int .i64 k ∧ Below w.heap.size w wr ∧ Hid (wr.heap[w.heap.size]? = some (.cells arr 2 (0, 0))) ∧ Hid (arr.size = n * 1) ∧ Hid (∀ i, i < k → arr[i]? = some (.int .i64 (f i)))) (fun i _ => n - (intOf i).toNat)
  case atStart => exact ⟨0, _, Nat.zero_le _, rfl, below_box _ _, Lib.hid (heap_alloc_new _ _), Lib.hid (by rw [size_madeCells, Nat.mul_one]), Lib.hid fun i hi => by omega⟩
  case round =>
    obtain ⟨k, arr, hk, rfl, hbel, hblk, hsz, hall⟩ := hrel
    have HB := Lib.hid hbel
    by_cases hlt : k < n
    · obtain ⟨b, off, rfl, hb, hc⟩ := HA.out (by omega)
      have x0 : wr.cell? ⟨b, off + k, none⟩ = some (.int .i64 (f k)) := (hbel.cell (p := ⟨b, off + k, none⟩) hb).trans (hc k hlt)
      have hsk : k < arr.size := by have := hsz.out; omega
      have y0 : wr.cell? ⟨w.heap.size, k, none⟩ = some (arr[k]'hsk) := by
        rw [cell_of_row _ _ _ _ _ _ hblk.out]
        exact Array.getElem?_eq_getElem _
      generalize arr[k]'hsk = old at y0
      have z0 : wr.frozen? ⟨w.heap.size, k, none⟩ = false := blk_free hblk.out k
      clear hbel hc hb hk
      go_wp2_with fail
      go_roundw
      case rel =>
        refine ⟨k + 1, _, by omega, by go_num, HB.out.setCell (p := ⟨w.heap.size, k, none⟩) (Nat.le_refl _) _, Lib.hid (heap_set hblk.out _ _), Lib.hid (by simp [hsz.out]), Lib.hid fun i hi => ?_⟩
        rw [Array.getElem?_setIfInBounds]
        by_cases e : k = i
        · subst e
          rw [if_pos rfl, if_pos hsk]
        · rw [if_neg e]
          exact hall.out i (by omega)
      case measure => simp [intOf]; omega
    · obtain rfl : k = n := by omega
      clear hbel
      go_wp2_with fail
      go_ret
      exact ⟨w.heap.size, rfl, Nat.le_refl _, Lib.hid ⟨lt_of_heap hblk.out, fun i hi => (cell_of_row _ _ _ _ _ _ hblk.out).trans (hall.out i hi), fun i => blk_free hblk.out i⟩, HB.out⟩

theorem at_nums {w : World} {g n : Nat} {f : Nat → Int} (h : At w g n f) : Nums w w.heap.size (some ⟨g, 0, none⟩) n f := fun _ => ⟨g, 0, rfl, h.1, fun i hi => by rw [Nat.zero_add]; exact h.2.1 i hi⟩
/-- A struct of three numbers and a slice of numbers. -/
abbrev fitV (mn mx gi : Int) (A : Option Addr) (n c : Nat) : Value := .agg #[.int .i64 mn, .int .i64 mx, .int .i64 gi, .slice A n c]
theorem sz_fit (mn mx gi : Int) (A : Option Addr) (n c : Nat) (l : Int) (hn : (n : Int) ≤ l) (hl : l ≤ 1048576) (w : World) : Calls Try.prog 47 #[fitV mn mx gi A n c, .int .i64 l] w fun e w' => e = .returned (.int .i64 (l - n)) ∧ Below w.heap.size w w' := by
  have C : Hid (∀ w, Calls Try.prog 83 #[.slice A n c, .int .i64 l] w fun e w' => e = .returned (.int .i64 (l - n)) ∧ w = w') := Lib.hid fun w => by
    have h0 : ¬ l - n < 0 := by omega
    go_enter Try.func83, Try.ntmps83
    go_wp2_with fail
    go_ret
    exact ⟨rfl, rfl⟩
  have h0 : ¬ l - n < 0 := by omega
  generalize l - (n : Int) = r at C h0 ⊢
  go_enter Try.func47, Try.ntmps47
  go_wp2_with fail
  refine (C.out _).mono ?_
  rintro e w' ⟨rfl, rfl⟩
  go_wp2_with fail
  go_ret
  exact ⟨rfl, below_box _ _⟩
theorem sz_fit_big (mn mx gi : Int) (A : Option Addr) (n c : Nat) (l : Int) (hn : l < (n : Int)) (hm : n ≤ maxLen) (hl0 : 0 ≤ l) (hl : l ≤ 1048576) (w : World) : Calls Try.prog 47 #[fitV mn mx gi A n c, .int .i64 l] w fun e w' => e = .returned (.int .i64 (-1)) ∧ Below w.heap.size w w' := by
  unfold maxLen at hm
  have C : Hid (∀ w, Calls Try.prog 83 #[.slice A n c, .int .i64 l] w fun e w' => e = .returned (.int .i64 (-1)) ∧ w = w') := Lib.hid fun w => by
    have h0 : l - n < 0 := by omega
    go_enter Try.func83, Try.ntmps83
    go_wp2_with fail
    go_ret
    exact ⟨rfl, rfl⟩
  go_enter Try.func47, Try.ntmps47
  go_wp2_with fail
  refine (C.out _).mono ?_
  rintro e w' ⟨rfl, rfl⟩
  go_wp2_with fail
  go_ret
  exact ⟨rfl, below_box _ _⟩
/-- The law's copy of a fit. -/
theorem to_fit (mn mx gi : Int) (A : Option Addr) (n c : Nat) (f : Nat → Int) (hn : n ≤ 1048576) (w : World) (hA : Nums w w.heap.size A n f) :
    Calls Try.prog 49 #[fitV mn mx gi A n c] w fun e w' => ∃ g, e = .returned (fitV mn mx gi (some ⟨g, 0, none⟩) n n) ∧ w.heap.size ≤ g ∧ Hid (At w' g n f) ∧ Below w.heap.size w w' := by
  have HA := Lib.hid hA
  clear hA
  unfold fitV
  go_enter Try.func49, Try.ntmps49
  go_wp2_with fail
  refine (to_ints A n c f hn _ ((HA.out.below (below3 w _ _ _) (Nat.le_refl _)).more (by simp; omega))).mono ?_
  rintro e w1 ⟨g, rfl, hg, HT, b1⟩
  obtain ⟨ka, kz, ko⟩ := three w (.cells #[.int .i64 mn, .int .i64 mx, .int .i64 gi, .slice A n c] 65) (.cells #[.int .i64 0, .int .i64 0, .int .i64 0, .slice none 0 0] 68) (.cells #[.int .i64 mn, .int .i64 mx, .int .i64 gi, .slice none 0 0] 68)
  have KZ := Lib.hid (blk_keep b1 kz)
  have KO := Lib.hid (blk_keep b1 ko)
  have HB := Lib.hid (below_then (below3 w _ _ _) b1)
  have hg' : w.heap.size + 3 ≤ g := by simpa using hg
  have hz := lt_of_heap KO.out
  clear ka kz ko b1 hg
  obtain ⟨z0, z1, z2, z3⟩ := blk4 KZ.out
  obtain ⟨y0, y1, y2, y3⟩ := blk4 KO.out
  have fz := blk_free KZ.out
  have fo := blk_free KO.out
  have KF : Hid ((((((w1.setCell ⟨w.heap.size + 1 + 1, 3, none⟩ (.slice (some ⟨g, 0, none⟩) n n)).setCell ⟨w.heap.size + 1, 0, none⟩ (.int .i64 mn)).setCell ⟨w.heap.size + 1, 1, none⟩ (.int .i64 mx)).setCell ⟨w.heap.size + 1, 2, none⟩ (.int .i64 gi)).setCell ⟨w.heap.size + 1, 3, none⟩ (.slice (some ⟨g, 0, none⟩) n n)).heap[w.heap.size + 1]? = some (.cells #[.int .i64 mn, .int .i64 mx, .int .i64 gi, .slice (some ⟨g, 0, none⟩) n n] 68 (0, 0))) :=
    Lib.hid (heap_set (heap_set (heap_set (heap_set ((Below.heap_setCell _ _ _ _ (by simp)).trans KZ.out) 0 _) 1 _) 2 _) 3 _)
  have HTF : Hid (At (((((w1.setCell ⟨w.heap.size + 1 + 1, 3, none⟩ (.slice (some ⟨g, 0, none⟩) n n)).setCell ⟨w.heap.size + 1, 0, none⟩ (.int .i64 mn)).setCell ⟨w.heap.size + 1, 1, none⟩ (.int .i64 mx)).setCell ⟨w.heap.size + 1, 2, none⟩ (.int .i64 gi)).setCell ⟨w.heap.size + 1, 3, none⟩ (.slice (some ⟨g, 0, none⟩) n n)) g n f) := Lib.hid (At.set (At.set (At.set (At.set (At.set HT.out (by omega)) (by omega)) (by omega)) (by omega)) (by omega))
  have HBF : Hid (Below w.heap.size w (((((w1.setCell ⟨w.heap.size + 1 + 1, 3, none⟩ (.slice (some ⟨g, 0, none⟩) n n)).setCell ⟨w.heap.size + 1, 0, none⟩ (.int .i64 mn)).setCell ⟨w.heap.size + 1, 1, none⟩ (.int .i64 mx)).setCell ⟨w.heap.size + 1, 2, none⟩ (.int .i64 gi)).setCell ⟨w.heap.size + 1, 3, none⟩ (.slice (some ⟨g, 0, none⟩) n n))) := Lib.hid (((((HB.out.setCell (by simp; omega) _).setCell (by simp) _).setCell (by simp) _).setCell (by simp) _).setCell (by simp) _)
  go_wp2_with fail
  generalize ((((w1.setCell ⟨w.heap.size + 1 + 1, 3, none⟩ (.slice (some ⟨g, 0, none⟩) n n)).setCell ⟨w.heap.size + 1, 0, none⟩ (.int .i64 mn)).setCell ⟨w.heap.size + 1, 1, none⟩ (.int .i64 mx)).setCell ⟨w.heap.size + 1, 2, none⟩ (.int .i64 gi)).setCell ⟨w.heap.size + 1, 3, none⟩ (.slice (some ⟨g, 0, none⟩) n n) = wf at KF HTF HBF ⊢
  clear z0 z1 z2 z3 y0 y1 y2 y3 fz fo
  obtain ⟨z0, z1, z2, z3⟩ := blk4 KF.out
  exact bodyPost_ret (v := fitV mn mx gi (some ⟨g, 0, none⟩) n n) (by simp [results, Try.results49, go_sem, z0, z1, z2, z3]) rfl ⟨g, rfl, by omega, HTF, HBF.out⟩

/-- Fits of the same numbers are equal. -/
theorem eq_fit (mn mx gi : Int) (A1 A2 : Option Addr) (n c1 c2 : Nat) (f : Nat → Int) (hn : n ≤ 1048576) (w : World) (h1 : Nums w w.heap.size A1 n f) (h2 : Nums w w.heap.size A2 n f) :
    Calls Try.prog 51 #[fitV mn mx gi A1 n c1, fitV mn mx gi A2 n c2] w fun e w' => e = .returned (.bool true) ∧ Below w.heap.size w w' := by
  have H1 := Lib.hid h1
  have H2 := Lib.hid h2
  clear h1 h2
  unfold fitV
  have n0 : (mn != mn) = false := by simp
  have n1 : (mx != mx) = false := by simp
  have n2 : (gi != gi) = false := by simp
  go_enter Try.func51, Try.ntmps51
  go_wp2_with fail
  refine (eq_ints A1 A2 n c1 c2 f hn _ ((H1.out.below (below2 w _ _) (Nat.le_refl _)).more (by simp; omega)) ((H2.out.below (below2 w _ _) (Nat.le_refl _)).more (by simp; omega))).mono ?_
  rintro e w1 ⟨rfl, b1⟩
  have HB := Lib.hid (below_then (below2 w _ _) b1)
  clear b1
  go_wp2_with fail
  go_ret
  exact ⟨rfl, HB.out⟩

/-- A fit that is valid. -/
def FitOk (mn mx gi : Int) (n : Nat) (f : Nat → Int) : Prop := (inB mx 0 500 = true ∧ inB mn 0 mx = true ∧ inB gi 0 500 = true ∧ n = 4) ∧ ∀ i, i < n → inB (f i) 0 100 = true
set_option maxRecDepth 100000 in
set_option maxHeartbeats 1000000 in
theorem spec_fit (mn mx gi : Int) (A : Option Addr) (n c : Nat) (f : Nat → Int) (hn : n ≤ 1048576) (g : Nat) (w : World) (hg : w.heap[g]? = some (.cells #[.int .i64 mn, .int .i64 mx, .int .i64 gi, .slice A n c] 68 (0, 0))) (hA : Nums w w.heap.size A n f) :
    Calls Try.prog 84 #[.pointer (some ⟨g, 0, none⟩)] w (Tells (FitOk mn mx gi n f) w) := by
  have HA := Lib.hid hA
  have hgl := lt_of_heap hg
  obtain ⟨x0, x1, x2, x3⟩ := blk4 hg
  have HN : Hid (∀ k, k < n → inB (f k) 0 100 = false → ¬ FitOk mn mx gi n f) := Lib.hid fun k hk h e => by rw [e.2 k hk] at h; cases h
  have HY : Hid ((∀ k, k < n → inB (f k) 0 100 = true) → ∀ b : Bool, b = (inB mx 0 500 && (inB mn 0 mx && (inB gi 0 500 && ((n : Int) == 4)))) → (b = true ↔ FitOk mn mx gi n f)) := Lib.hid fun h b hb => by
    rw [hb]
    simp only [Bool.and_eq_true, beq_iff_eq, FitOk]
    constructor
    · rintro ⟨h1, h2, h3, h4⟩
      exact ⟨⟨h1, h2, h3, by omega⟩, h⟩
    · rintro ⟨⟨h1, h2, h3, h4⟩, _⟩
      exact ⟨h1, h2, h3, by omega⟩
  clear hg hA
  go_enter Try.func84, Try.ntmps84
  go_wp2_with fail
  go_loopw [3] (fun i wr => ∃ k : Nat, k ≤ n ∧ i = .int .i64 k ∧ w = wr ∧ Hid (∀ j, j < k → inB (f j) 0 100 = true)) (fun i _ => n - (intOf i).toNat)
  case atStart => exact ⟨0, Nat.zero_le _, rfl, rfl, Lib.hid fun j hj => by omega⟩
  case round =>
    obtain ⟨k, hk, rfl, rfl, hall⟩ := hrel
    by_cases hlt : k < n
    · obtain ⟨b, off, rfl, hb, hc⟩ := HA.out (by omega)
      have y0 : w.cell? ⟨b, off + k, none⟩ = some (.int .i64 (f k)) := hc k hlt
      have HNk := Lib.hid (HN.out k hlt)
      have HS := Lib.hid (fun h => step_all (p := fun j => inB (f j) 0 100) hall.out (k := k) h)
      have C := Lib.hid (fun w => in_any (f k) 0 100 w)
      have e0 : (0 : Int) ≤ (k : Int) := Int.natCast_nonneg _
      have e1 : (k : Int) < (n : Int) := by omega
      generalize inB (f k) 0 100 = r at HNk HS C
      generalize f k = u at y0 C
      clear hc hk
      go_wp2_with fail
      refine (C.out _).mono ?_
      rintro e w' ⟨rfl, rfl⟩
      cases r
      · have HF := Lib.hid (HNk.out rfl)
        go_wp2_with fail
        go_ret
        exact tells_no HF.out (Below.refl _ _)
      · have HD := Lib.hid (HS.out rfl)
        go_wp2_with fail
        go_roundw
        case rel => exact ⟨k + 1, by omega, by go_num, by first | rfl | trivial, HD⟩
        case measure => simp [intOf]; omega
    · obtain rfl : k = n := by omega
      have HD := Lib.hid (HY.out fun j hj => hall.out j hj)
      have C1 := Lib.hid (fun w => in_any mx 0 500 w)
      have C2 := Lib.hid (fun w => in_any mn 0 mx w)
      have C3 := Lib.hid (fun w => in_any gi 0 500 w)
      clear HN HY hk hlt
      generalize inB mx 0 500 = r1 at HD C1
      generalize inB mn 0 mx = r2 at HD C2
      generalize inB gi 0 500 = r3 at HD C3
      have R : r1 = false ∨ (r1 = true ∧ r2 = false) ∨ (r1 = true ∧ r2 = true ∧ r3 = false) ∨ (r1 = true ∧ r2 = true ∧ r3 = true) := by cases r1 <;> cases r2 <;> cases r3 <;> simp
      have HW := Lib.hid (fun q => (⟨rfl, rfl, rfl, Nat.le_refl _, fun _ _ => rfl⟩ : Below w.heap.size w (w.drewN q)))
      rcases R with rfl | ⟨rfl, rfl⟩ | ⟨rfl, rfl, rfl⟩ | ⟨rfl, rfl, rfl⟩
      all_goals
        go_wp2_with fail
        go_quiet ((first | (go_at_call_of 65 mn; exact Calls.quiet_of_same ((C2.out _).mono fun _ _ h => ⟨h.1, h.2.symm⟩)) | (go_at_call_of 65 mx; exact Calls.quiet_of_same ((C1.out _).mono fun _ _ h => ⟨h.1, h.2.symm⟩)) | (go_at_call_of 65 gi; exact Calls.quiet_of_same ((C3.out _).mono fun _ _ h => ⟨h.1, h.2.symm⟩))))
        go_wp2_with fail
        go_ret
        refine ⟨_, rfl, HD.out _ ?_, HW.out _⟩
        first | rfl | (simp only [Bool.true_and, Bool.false_and]) | (simp; done)
end Go.Proofs.Ytaoknbhpjnileaa.Fi
