/- Blocks on a roll: the program's rows of a filling, the nest of blocks, the first row for which something holds. -/
import Derived.Test.YtgclhkiiaclkgabPcLib
import Derived.Deep.LoopGhost
import Derived.Deep.RegionHeld3
import Derived.Shelf.Lays
namespace Go.Proofs.Ytgclhkiiaclkgab.Pd
set_option linter.unusedVariables false
open Go.RowKit Is Ge Qb Jr Js Jt Ju Jw Jx Pa P5 Pb Pc
open Go.Proofs.Ytgclhkiiaclkgab.Ba (inB below_then below_box)

theorem at_row (w : World) (n : Nat) (f : Nat → Int) (h : ∀ j, f j = 0) : At (w.alloc (.cells (Go.madeCells #[Value.int .i64 0] n) 2)) w.heap.size n f := N1.at_ext (at_zero w n) fun j => (h j).symm
/-- The rows while they are made. -/
structure Rw (w wr : World) (n : Nat) (f : Nat → Int) : Prop where
  bel : Below w.heap.size w wr
  row : At wr (w.heap.size + 1) n f
set_option maxRecDepth 100000 in
set_option maxHeartbeats 4000000 in
theorem irows (F : Nat → Nat) (n : Nat) (hF : ∀ k, F k < 512) (hn : n ≤ 9) (w : World) :
    Calls Try.prog 81 #[flV F, .int .i64 (n : Int)] w fun e w' => e = .returned (.slice (some ⟨w.heap.size + 1, 0, none⟩) n n) ∧ Below w.heap.size w w' ∧ At w' (w.heap.size + 1) n (fun j => lk F j 9) := by
  have CH := Lib.hid (fun k t (ht : t < 9) w => ihas (F k) t (hF k) ht w)
  have IX := Lib.hid (fun k (hk : k < 9) w => fl_index F hk w)
  have HM := Lib.hid (fun w => make_n n hn w)
  have R0 : Hid (Rw w ((w.alloc (flO F)).alloc (.cells (Go.madeCells #[Value.int .i64 0] n) 2)) n (fun j => lk F j 0)) := Lib.hid ⟨below2 w _ _, by
    have := at_row (w.alloc (flO F)) n (fun j => lk F j 0) (fun j => rfl)
    rwa [World.size_alloc] at this⟩
  have LS : Hid (∀ k j, lk F j (k + 1) = if (F k).testBit j = true then (k : Int) else lk F j k) := Lib.hid fun k j => rfl
  have z1 := blk9 (heap_alloc_new w (flO F))
  have K0 := Lib.hid z1
  clear hF z1
  have n0 : (0 : Int) ≤ (n : Int) := Int.natCast_nonneg _
  go_enter Try.func81, Try.ntmps81
  go_upto_region 1 with fail
  have hm := HM.out (w.alloc (flO F))
  go_upto_region 2 with fail
  clear hm HM
  have K1 := Lib.hid (Ge.blk_keep (below_box (w.alloc (flO F)) (.cells (Go.madeCells #[Value.int .i64 0] n) 2)) (heap_alloc_new w (flO F)))
  generalize hw9 : (w.alloc (flO F)).alloc _ = w0 at R0 K1 ⊢
  clear hw9 K0
  obtain ⟨z0, z1, z2, z3, z4, z5, z6, z7, z8⟩ := blk9 K1.out
  go_wp2_with fail
  clear z0 z1 z2 z3 z4 z5 z6 z7 z8 K1
  go_loopw [6, 7, 8, 12] (fun _ _ _ i wr => ∃ k : Nat, k ≤ 9 ∧ i = .int .i64 (k : Int) ∧ Hid (Rw w wr n (fun j => lk F j k))) (fun _ _ _ i _ => 9 - (intOf i).toNat)
  case atStart => exact ⟨0, Nat.zero_le _, rfl, R0⟩
  case round =>
    obtain ⟨k, hk, rfl, HB⟩ := hrel
    have e0 : (0 : Int) ≤ (k : Int) := Int.natCast_nonneg _
    by_cases hlt : k < 9
    · have e1 : (k : Int) ≤ 8 := by omega
      have e2 : (k : Int) < 9 := by omega
      have ix := IX.out k hlt
      have CK := Lib.hid (CH.out k)
      have HS := Lib.hid (LS.out k)
      have hk1 : k + 1 ≤ 9 := by omega
      have ixr := ix wr
      clear CH IX LS ix R0
      generalize hx : F k = x at *
      clear hx
      go_wp2_with fail
      rename World => wo
      go_loopw [8, 18] (fun _ i wr => ∃ j : Nat, j ≤ n ∧ i = .int .i64 (j : Int) ∧ Hid (Rw w wr n (fun q => if q < j then lk F q (k + 1) else lk F q k))) (fun _ i _ => n - (intOf i).toNat)
      case atStart => exact ⟨0, Nat.zero_le _, rfl, Lib.hid ⟨HB.out.bel, N1.at_ext HB.out.row fun q => by rw [if_neg (by omega)]⟩⟩
      case round =>
        obtain ⟨j, hj, rfl, HV⟩ := hrel
        have f0 : (0 : Int) ≤ (j : Int) := Int.natCast_nonneg _
        by_cases hjl : j < n
        · have f1 : (j : Int) < (n : Int) := by omega
          have CJ := Lib.hid (CK.out j (by omega))
          have HJ := Lib.hid (HS.out j)
          have hj1 : j + 1 ≤ n := by omega
          generalize x.testBit j = q at CJ HJ
          cases q
          · have HN : Hid (Rw w wr n (fun q => if q < j + 1 then lk F q (k + 1) else lk F q k)) := Lib.hid ⟨HV.out.bel, N1.at_ext HV.out.row fun q => by
              have hj' : lk F j (k + 1) = lk F j k := HJ.out.trans (if_neg (by simp))
              by_cases c : q < j
              · rw [if_pos c, if_pos (by omega)]
              · by_cases c2 : q = j
                · subst c2
                  rw [if_neg c, if_pos (by omega), hj']
                · rw [if_neg c, if_neg (by omega)]⟩
            clear HS HJ CK HB
            go_wp2_with fail
            refine (CJ.out _).mono ?_
            rintro e w3 ⟨rfl, rfl⟩
            go_wp2_with fail
            go_roundw
            case rel => exact ⟨j + 1, hj1, by go_num, HN⟩
            case measure => simp [intOf]; omega
          · have hc := HV.out.row.2.1 j hjl
            have hfr := HV.out.row.2.2 j
            have hj' : lk F j (k + 1) = (k : Int) := HJ.out.trans (if_pos rfl)
            have HN : Hid (Rw w (wr.setCell ⟨w.heap.size + 1, j, none⟩ (.int .i64 (k : Int))) n (fun q => if q < j + 1 then lk F q (k + 1) else lk F q k)) := Lib.hid ⟨HV.out.bel.setCell (p := ⟨w.heap.size + 1, j, none⟩) (Nat.le_succ _) _, by
              have := at_set (f' := fun q => if q < j + 1 then lk F q (k + 1) else lk F q k) (z := j) HV.out.row fun q hq => by
                by_cases c : q < j
                · rw [if_pos c, if_pos (by omega)]
                · rw [if_neg c, if_neg (by omega)]
              rwa [if_pos (by omega), hj'] at this⟩
            clear HS HJ CK HB hj' HV
            generalize (if j < j then lk F j (k + 1) else lk F j k) = old at hc
            go_wp2_with fail
            refine (CJ.out _).mono ?_
            rintro e w3 ⟨rfl, rfl⟩
            go_wp2_with fail
            go_roundw
            case rel => exact ⟨j + 1, hj1, by go_num, HN⟩
            case measure => simp [intOf]; omega
        · obtain rfl : j = n := by omega
          have HN : Hid (Rw w wr j (fun q => lk F q (k + 1))) := Lib.hid ⟨HV.out.bel, HV.out.row.1, fun i hi => (HV.out.row.2.1 i hi).trans (by show some (Value.int .i64 (if i < j then _ else _)) = _; rw [if_pos hi]), HV.out.row.2.2⟩
          clear HV HB CK HS
          go_wp2_with fail
          go_roundw
          case rel => exact ⟨k + 1, hk1, by go_num, HN⟩
          case measure => simp [intOf]; omega
    · obtain rfl : k = 9 := by omega
      clear CH IX LS R0
      go_wp2_with fail
      go_ret
      exact ⟨rfl, HB.out.bel, HB.out.row⟩
set_option maxHeartbeats 1000000 in
theorem inest (A : Option Addr) (n c : Nat) (g : Nat → Int) (roll : Int) (hn : n ≤ 1048576) (w : World) (hA : Nums w w.heap.size A (n * 2) g) :
    Calls Try.prog 67 #[.slice A n c, .int .i64 roll] w fun e w' => e = .returned (.tuple #[if tv (BlP roll n g) = true then neV A n c roll else neV none 0 0 0, .int .i64 (blC roll n g)]) ∧ Below w.heap.size w w' := by
  have BX := Lib.hid (Bx.of w (neO none 0 0 0))
  have CV := Lib.hid (fun w h => impl_vb A n c g roll hn w h)
  have HA := Lib.hid hA
  unfold blC
  generalize tv (BlP roll n g) = ok at CV ⊢
  clear hA
  cases ok
  · rw [if_neg (by simp), if_neg (by simp)]
    go_enter Try.func67, Try.ntmps67
    go_upto_region 1 with fail
    generalize hw9 : World.alloc _ _ = w0 at BX ⊢
    clear hw9
    go_wp2_with fail
    refine (CV.out _ ((HA.out.below BX.out.bel (Nat.le_refl _)).more BX.out.bel.size)).mono ?_
    rintro e w1 ⟨rfl, b1⟩
    have BX1 := Lib.hid (BX.out.below b1)
    clear b1 BX CV HA
    have hfr := blk_free BX1.out.box
    obtain ⟨z0, z1⟩ := blk2 BX1.out.box
    have HF := Lib.hid ((BX1.out.bel.setCell (p := ⟨w.heap.size, 0, none⟩) (Nat.le_refl _) (.slice none 0 0)).setCell (p := ⟨w.heap.size, 1, none⟩) (Nat.le_refl _) (.int .i64 0))
    go_wp2_with fail
    exact bodyPost_ret (v := .tuple #[neV none 0 0 0, .int .i64 1]) (by simp [results, Try.results67, go_sem, z0, z1]) rfl ⟨rfl, HF.out⟩
  · rw [if_pos rfl, if_pos rfl]
    go_enter Try.func67, Try.ntmps67
    go_upto_region 1 with fail
    generalize hw9 : World.alloc _ _ = w0 at BX ⊢
    clear hw9
    go_wp2_with fail
    refine (CV.out _ ((HA.out.below BX.out.bel (Nat.le_refl _)).more BX.out.bel.size)).mono ?_
    rintro e w1 ⟨rfl, b1⟩
    have BX1 := Lib.hid (BX.out.below b1)
    clear b1 BX CV HA
    have hfr := blk_free BX1.out.box
    obtain ⟨z0, z1⟩ := blk2 BX1.out.box
    have HF := Lib.hid ((BX1.out.bel.setCell (p := ⟨w.heap.size, 0, none⟩) (Nat.le_refl _) (.slice A n c)).setCell (p := ⟨w.heap.size, 1, none⟩) (Nat.le_refl _) (.int .i64 roll))
    go_wp2_with fail
    exact bodyPost_ret (v := .tuple #[neV A n c roll, .int .i64 0]) (by simp [results, Try.results67, go_sem, z0, z1]) rfl ⟨rfl, HF.out⟩
/-- The first of nine rows for which something holds; -1 if there is none. -/
def fx (p : Nat → Bool) : Int := if fi p 0 9 < 9 then (fi p 0 9 : Int) else -1
theorem fi_none {p : Nat → Bool} : ∀ {n k : Nat}, (∀ j, k ≤ j → j < k + n → p j = false) → fi p k n = k + n
  | 0, k, _ => rfl
  | n + 1, k, h => by
    unfold fi
    rw [if_neg (by rw [h k (Nat.le_refl _) (by omega)]; simp), fi_none fun j hj hj2 => h j (by omega) (by omega)]
    omega
theorem fx_hit {p : Nat → Bool} {k : Nat} (hk : k < 9) (h : p k = true) (hb : ∀ j, j < k → p j = false) : fx p = (k : Int) := by
  have e : fi p 0 9 = k := fi_hit h (Nat.zero_le _) (by omega) fun j _ hj => hb j hj
  unfold fx
  rw [e, if_pos hk]
theorem fx_none {p : Nat → Bool} (h : ∀ j, j < 9 → p j = false) : fx p = -1 := by
  have e : fi p 0 9 = 9 := fi_none fun j _ hj => h j (by omega)
  unfold fx
  rw [e, if_neg (by omega)]
theorem fx_fa {roll : Int} {f : Nat → Int} : fx (fun k => decide (roll < f k)) = fa roll f 9 := by
  by_cases h : ∀ j, j < 9 → f j ≤ roll
  · have e1 := fx_none (p := fun k => decide (roll < f k)) fun j hj => decide_eq_false (by have := h j hj; omega)
    rw [e1, fa_none h]
  · have : ∃ k, k < 9 ∧ roll < f k ∧ ∀ j, j < k → f j ≤ roll := by
      have aux : ∀ N, (¬ ∀ j, j < N → f j ≤ roll) → ∃ k, k < N ∧ roll < f k ∧ ∀ j, j < k → f j ≤ roll := by
        intro N
        induction N with
        | zero => intro h; exact absurd (fun j hj => by omega) h
        | succ N ih =>
          intro h
          by_cases c : ∀ j, j < N → f j ≤ roll
          · refine ⟨N, by omega, ?_, c⟩
            by_cases d : roll < f N
            · exact d
            · exact absurd (fun j hj => by
                by_cases e : j = N
                · rw [e]; omega
                · exact c j (by omega)) h
          · obtain ⟨k, h1, h2, h3⟩ := ih c
            exact ⟨k, by omega, h2, h3⟩
      exact aux 9 h
    obtain ⟨k, h1, h2, h3⟩ := this
    have e1 := fx_hit (p := fun k => decide (roll < f k)) h1 (decide_eq_true h2) fun j hj => decide_eq_false (by have := h3 j hj; omega)
    rw [e1, fa_hit h3 h2 h1]
set_option maxRecDepth 100000 in
set_option maxHeartbeats 4000000 in
theorem idx_m (g : Nat) (x : Value) (b off : Nat) (F : Nat → Nat) (p : Nat → Bool) (w : World) (eg : ∀ args w, (callFunc g args).run Try.prog w = .ok (.enter g args) w) (hb : b < w.heap.size) (hc : ∀ k, k < 9 → w.cell? ⟨b, off + k, none⟩ = some (.int .u16 (F k : Int)))
    (hf : ∀ (W : World) (k : Nat), k < 9 → Below w.heap.size w W → Calls Try.prog g #[x, .int .u16 (F k : Int)] W fun e w' => e = .returned (.bool (p k)) ∧ Below W.heap.size W w') :
    Calls Try.prog 85 #[.slice (some ⟨b, off, none⟩) 9 9, .func (.func g) #[x] #[]] w fun e w' => e = .returned (.int .i64 (fx p)) ∧ Below w.heap.size w w' := by
  have HC := Lib.hid (fun (W : World) k (hk : k < 9) (hW : Below w.heap.size w W) => (hW.cell (p := ⟨b, off + k, none⟩) hb).trans (hc k hk))
  have HF := Lib.hid hf
  have PY := Lib.hid (fun k (hk : k < 9) h hb => fx_hit (p := p) hk h hb)
  have PN := Lib.hid (fun h => fx_none (p := p) h)
  generalize fx p = r at PY PN ⊢
  clear hf hc
  go_enter Try.func85, Try.ntmps85
  go_wp2_with fail
  go_loopw [5, 8] (fun _ i wr => ∃ k : Nat, k ≤ 9 ∧ i = .int .i64 (k : Int) ∧ Hid (Below w.heap.size w wr) ∧ Hid (∀ j, j < k → p j = false)) (fun _ i _ => 9 - (intOf i).toNat)
  case atStart => exact ⟨0, Nat.zero_le _, rfl, Lib.hid (Below.refl _ _), Lib.hid fun j hj => by omega⟩
  case round =>
    obtain ⟨k, hk, rfl, HB, HD⟩ := hrel
    have e0 : (0 : Int) ≤ (k : Int) := Int.natCast_nonneg _
    by_cases hlt : k < 9
    · have e1 : (k : Int) ≤ 8 := by omega
      have e2 : (k : Int) < 9 := by omega
      have x0 := HC.out wr k hlt HB.out
      have C := Lib.hid (HF.out wr k hlt HB.out)
      have PYk := Lib.hid (PY.out k hlt)
      have HDk : Hid (p k = false → ∀ j, j < k + 1 → p j = false) := Lib.hid fun h j hj => by
        by_cases e : j = k
        · rw [e]; exact h
        · exact HD.out j (by omega)
      have hk1 : k + 1 ≤ 9 := by omega
      clear HC HF PY PN
      generalize F k = x at x0 C
      generalize p k = pk at C PYk HDk
      cases pk
      · have HDD := Lib.hid (HDk.out rfl)
        clear HDk PYk HD
        go_wp2_with (go_at_fn g; refine C.out.mono ?_; rintro e w4 ⟨rfl, b4⟩)
        have HB4 := Lib.hid (below_then HB.out b4)
        clear b4
        go_roundw
        case rel => exact ⟨k + 1, hk1, by go_num, HB4, HDD⟩
        case measure => simp [intOf]; omega
      · have HE := Lib.hid (PYk.out rfl HD.out)
        clear HDk PYk HD
        go_wp2_with (go_at_fn g; refine C.out.mono ?_; rintro e w4 ⟨rfl, b4⟩)
        have HB4 := Lib.hid (below_then HB.out b4)
        clear b4
        go_ret
        exact ⟨by rw [HE.out]; rfl, HB4.out⟩
    · obtain rfl : k = 9 := by omega
      have HE := Lib.hid (PN.out HD.out)
      clear HC HF PY PN
      go_wp2_with fail
      go_ret
      exact ⟨by rw [HE.out]; rfl, HB.out⟩
set_option maxRecDepth 100000 in
set_option maxHeartbeats 4000000 in
theorem idx_c (g : Nat) (x y : Value) (b off : Nat) (F : Nat → Nat) (p : Nat → Bool) (w : World) (eg : ∀ args w, (callFunc g args).run Try.prog w = .ok (.enter g args) w) (hb : b < w.heap.size) (hc : ∀ k, k < 9 → w.cell? ⟨b, off + k, none⟩ = some (.int .u16 (F k : Int)))
    (hf : ∀ (W : World) (k : Nat), k < 9 → Below w.heap.size w W → Calls Try.prog g #[.int .u16 (F k : Int), x, y] W fun e w' => e = .returned (.bool (p k)) ∧ Below W.heap.size W w') :
    Calls Try.prog 85 #[.slice (some ⟨b, off, none⟩) 9 9, .func (.func g) #[] #[x, y]] w fun e w' => e = .returned (.int .i64 (fx p)) ∧ Below w.heap.size w w' := by
  have HC := Lib.hid (fun (W : World) k (hk : k < 9) (hW : Below w.heap.size w W) => (hW.cell (p := ⟨b, off + k, none⟩) hb).trans (hc k hk))
  have HF := Lib.hid hf
  have PY := Lib.hid (fun k (hk : k < 9) h hb => fx_hit (p := p) hk h hb)
  have PN := Lib.hid (fun h => fx_none (p := p) h)
  generalize fx p = r at PY PN ⊢
  clear hf hc
  go_enter Try.func85, Try.ntmps85
  go_wp2_with fail
  go_loopw [5, 8] (fun _ i wr => ∃ k : Nat, k ≤ 9 ∧ i = .int .i64 (k : Int) ∧ Hid (Below w.heap.size w wr) ∧ Hid (∀ j, j < k → p j = false)) (fun _ i _ => 9 - (intOf i).toNat)
  case atStart => exact ⟨0, Nat.zero_le _, rfl, Lib.hid (Below.refl _ _), Lib.hid fun j hj => by omega⟩
  case round =>
    obtain ⟨k, hk, rfl, HB, HD⟩ := hrel
    have e0 : (0 : Int) ≤ (k : Int) := Int.natCast_nonneg _
    by_cases hlt : k < 9
    · have e1 : (k : Int) ≤ 8 := by omega
      have e2 : (k : Int) < 9 := by omega
      have x0 := HC.out wr k hlt HB.out
      have C := Lib.hid (HF.out wr k hlt HB.out)
      have PYk := Lib.hid (PY.out k hlt)
      have HDk : Hid (p k = false → ∀ j, j < k + 1 → p j = false) := Lib.hid fun h j hj => by
        by_cases e : j = k
        · rw [e]; exact h
        · exact HD.out j (by omega)
      have hk1 : k + 1 ≤ 9 := by omega
      clear HC HF PY PN
      generalize F k = x at x0 C
      generalize p k = pk at C PYk HDk
      cases pk
      · have HDD := Lib.hid (HDk.out rfl)
        clear HDk PYk HD
        go_wp2_with (go_at_fn g; refine C.out.mono ?_; rintro e w4 ⟨rfl, b4⟩)
        have HB4 := Lib.hid (below_then HB.out b4)
        clear b4
        go_roundw
        case rel => exact ⟨k + 1, hk1, by go_num, HB4, HDD⟩
        case measure => simp [intOf]; omega
      · have HE := Lib.hid (PYk.out rfl HD.out)
        clear HDk PYk HD
        go_wp2_with (go_at_fn g; refine C.out.mono ?_; rintro e w4 ⟨rfl, b4⟩)
        have HB4 := Lib.hid (below_then HB.out b4)
        clear b4
        go_ret
        exact ⟨by rw [HE.out]; rfl, HB4.out⟩
    · obtain rfl : k = 9 := by omega
      have HE := Lib.hid (PN.out HD.out)
      clear HC HF PY PN
      go_wp2_with fail
      go_ret
      exact ⟨by rw [HE.out]; rfl, HB.out⟩
end Go.Proofs.Ytgclhkiiaclkgab.Pd
