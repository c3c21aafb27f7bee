/- Blocks on a roll: the spec's widths and heights of all rows. -/
import Derived.Test.YtgclhkiiaclkgabJsLib
import Derived.Deep.DeepCutAuto
namespace Go.Proofs.Ytgclhkiiaclkgab.Jt
set_option linter.unusedVariables false
open Go.RowKit Is Ge Qb Jr Js
open Go.Proofs.Ytgclhkiiaclkgab.Ba (inB below_then below_box ret_bool)

/-- The widths and the heights of the rows, after t blocks. -/
def wd (g p : Nat → Int) : Nat → Nat → Int
  | 0, _ => 0
  | t + 1, k => if p t = (k : Int) then wd g p t k + g (t * 2) else wd g p t k
def ht (g p : Nat → Int) : Nat → Nat → Int
  | 0, _ => 0
  | t + 1, k => if p t = (k : Int) then max (ht g p t k) (g (t * 2 + 1)) else ht g p t k
theorem wd_in {roll : Int} {n : Nat} {g : Nat → Int} (p : Nat → Int) (h : BlP roll n g) : ∀ {t : Nat}, t ≤ n → ∀ k, 0 ≤ wd g p t k ∧ wd g p t k ≤ 5000 * (t : Int)
  | 0, _, k => ⟨Int.le_refl _, Int.le_refl _⟩
  | t + 1, ht, k => by
    have h1 := wd_in p h (show t ≤ n by omega) k
    have h2 := blk_in (h.2 t (by omega))
    have h3 := inb h.1.1
    unfold wd
    split <;> omega
theorem ht_in {roll : Int} {n : Nat} {g : Nat → Int} (p : Nat → Int) (h : BlP roll n g) : ∀ {t : Nat}, t ≤ n → ∀ k, 0 ≤ ht g p t k ∧ ht g p t k ≤ 5000
  | 0, _, k => ⟨Int.le_refl _, by unfold ht; omega⟩
  | t + 1, h0, k => by
    have h1 := ht_in p h (show t ≤ n by omega) k
    have h2 := blk_in (h.2 t (by omega))
    unfold ht
    split <;> omega
theorem at_set {w : World} {g m : Nat} {f f' : Nat → Int} {z : Nat} (h : At w g m f) (hf : ∀ j, j ≠ z → f' j = f j) : At (w.setCell ⟨g, z, none⟩ (.int .i64 (f' z))) g m f' :=
  ⟨by simpa using h.1, fun i hi => by
    by_cases e : i = z
    · subst e
      exact World.cell?_setCell_same _ _ _ (h.2.1 i hi)
    · rw [World.cell?_setCell_other _ _ _ _ (show (⟨g, z, none⟩ : Addr) ≠ ⟨g, i, none⟩ from fun q => e (Addr.mk.inj q).2.1.symm), h.2.1 i hi, hf i e], fun i => (World.frozen?_setCell _ _ _ _).trans (h.2.2 i)⟩
theorem at_nine (w : World) : At (w.alloc (.cells (Go.madeCells #[Value.int .i64 0] 9) 2)) w.heap.size 9 (fun _ => 0) :=
  ⟨by simp, fun i hi => (cell_of_row _ _ _ _ _ _ (heap_alloc_new w _)).trans (by simp [Go.madeCells, hi, Nat.mod_one]), fun i => blk_free (heap_alloc_new w _) i⟩
theorem make_nine (w : World) : (Instr.makeSlice 30 (.int .i64 9) (.int .i64 9)).run Try.prog w = .ok (.slice (some ⟨w.heap.size, 0, none⟩) 9 9) (w.alloc (.cells (Go.madeCells #[Value.int .i64 0] 9) 2)) := by
  obtain ⟨i0, hi0, hz0, hz1, hz2⟩ := info_parts info_int
  have := run_make w _ _ i0 _ Try.underlying30 hi0 hz0 .i64 .i64 9 9 (by omega) (by omega) (by rw [hz2]; omega) (by omega)
  rw [hz1] at this
  exact this
/-- All that stays while the sums are made. -/
structure Sm (w wr : World) (f h : Nat → Int) : Prop where
  bel : Below w.heap.size w wr
  wid : At wr w.heap.size 9 f
  hei : At wr (w.heap.size + 1) 9 h
theorem Sm.drew {w wr : World} {f h : Nat → Int} (s : Sm w wr f h) : Sm w wr.drew f h := ⟨s.bel.drew, s.wid, s.hei⟩
theorem Sm.setW {w wr : World} {f h f' : Nat → Int} {z : Nat} (s : Sm w wr f h) (hf : ∀ j, j ≠ z → f' j = f j) : Sm w (wr.setCell ⟨w.heap.size, z, none⟩ (.int .i64 (f' z))) f' h :=
  ⟨s.bel.setCell (p := ⟨w.heap.size, z, none⟩) (Nat.le_refl _) _, at_set s.wid hf, s.hei.set (by omega)⟩
theorem Sm.setH {w wr : World} {f h h' : Nat → Int} {z : Nat} (s : Sm w wr f h) (hf : ∀ j, j ≠ z → h' j = h j) : Sm w (wr.setCell ⟨w.heap.size + 1, z, none⟩ (.int .i64 (h' z))) f h' :=
  ⟨s.bel.setCell (p := ⟨w.heap.size + 1, z, none⟩) (Nat.le_succ _) _, s.wid.set (by omega), at_set s.hei hf⟩
theorem Sm.below {w wr w' : World} {f h : Nat → Int} (s : Sm w wr f h) (hb : Below wr.heap.size wr w') : Sm w w' f h := ⟨below_then s.bel hb, s.wid.below hb, s.hei.below hb⟩
set_option maxRecDepth 100000 in
set_option maxHeartbeats 4000000 in
theorem sums (A : Option Addr) (n c : Nat) (g : Nat → Int) (roll : Int) (P : Option Addr) (m pc : Nat) (p : Nat → Int) (hB : BlP roll n g) (hP : ∀ j, j < m → 0 ≤ p j ∧ p j ≤ 8) (hmn : m ≤ n) (w : World) (hA : Nums w w.heap.size A (n * 2) g) (hR : Nums w w.heap.size P m p) :
    Calls Try.prog 77 #[.slice A n c, .slice P m pc] w fun e w' => e = .returned (.tuple #[.slice (some ⟨w.heap.size, 0, none⟩) 9 9, .slice (some ⟨w.heap.size + 1, 0, none⟩) 9 9]) ∧ Sm w w' (wd g p m) (ht g p m) := by
  have HA := Lib.hid hA
  have HR := Lib.hid hR
  have HP := Lib.hid hP
  have hn9 := hB.1.2
  have WI := Lib.hid (fun t (ht : t ≤ n) k => wd_in p hB ht k)
  have TI := Lib.hid (fun t (h0 : t ≤ n) k => ht_in p hB h0 k)
  have BI := Lib.hid (fun k (hk : k < n) => blk_in (hB.2 k hk))
  have RI := inb hB.1.1
  have WS : Hid (∀ t q : Nat, p t = (q : Int) → wd g p (t + 1) q = wd g p t q + g (t * 2) ∧ ∀ j, j ≠ q → wd g p (t + 1) j = wd g p t j) := Lib.hid fun t q h => ⟨if_pos h, fun j hj => if_neg (by omega)⟩
  have TS : Hid (∀ t q : Nat, p t = (q : Int) → ht g p (t + 1) q = max (ht g p t q) (g (t * 2 + 1)) ∧ ∀ j, j ≠ q → ht g p (t + 1) j = ht g p t j) := Lib.hid fun t q h => ⟨if_pos h, fun j hj => if_neg (by omega)⟩
  have CM := Lib.hid (fun a b w => max_any a b w)
  have S0 : Hid (Sm w ((w.alloc (.cells (Go.madeCells #[Value.int .i64 0] 9) 2)).alloc (.cells (Go.madeCells #[Value.int .i64 0] 9) 2)) (wd g p 0) (ht g p 0)) := Lib.hid ⟨below2 w _ _, (at_nine w).below (below_box _ _), by
    have := at_nine (w.alloc (.cells (Go.madeCells #[Value.int .i64 0] 9) 2))
    rw [World.size_alloc] at this
    exact this⟩
  have hmk1 := make_nine w
  have hmk2 := make_nine (w.alloc (.cells (Go.madeCells #[Value.int .i64 0] 9) 2))
  rw [World.size_alloc] at hmk2
  clear hA hR hP hB
  generalize wd g p = WD at *
  generalize ht g p = HT at *
  generalize Obj.cells (Go.madeCells #[Value.int .i64 0] 9) 2 = o9 at *
  go_enter Try.func77, Try.ntmps77
  go_wp2_with fail
  clear hmk1 hmk2
  generalize hw9 : (w.alloc o9).alloc o9 = w2 at S0 ⊢
  clear hw9
  go_loopw [8] (fun i wr => ∃ t : Nat, t ≤ m ∧ i = .int .i64 (t : Int) ∧ Hid (Sm w wr (WD t) (HT t))) (fun i _ => m - (intOf i).toNat)
  case atStart => exact ⟨0, Nat.zero_le _, rfl, S0⟩
  case round =>
    obtain ⟨t, ht, rfl, HS⟩ := hrel
    have e0 : (0 : Int) ≤ (t : Int) := Int.natCast_nonneg _
    by_cases hlt : t < m
    · have e1 : (t : Int) < (m : Int) := by omega
      have e2 : (t : Int) < (n : Int) := by omega
      have htn : t < n := by omega
      have ht1 : t + 1 ≤ m := by omega
      obtain ⟨q, hq⟩ : ∃ q : Nat, p t = (q : Int) := ⟨(p t).toNat, by have := HP.out t hlt; omega⟩
      have hq9 : q < 9 := by have := HP.out t hlt; omega
      have f0 : (0 : Int) ≤ (q : Int) := Int.natCast_nonneg _
      have f1 : (q : Int) < 9 := by omega
      obtain ⟨bp, op, eP, hbp, hcp⟩ := HR.out (by omega)
      obtain ⟨bl, ol, eA, hbl, hcl⟩ := HA.out (by omega)
      subst eP
      subst eA
      have XP : ∀ W, Below w.heap.size w W → W.cell? ⟨bp, op + t, none⟩ = some (.int .i64 (q : Int)) := fun W h => (h.cell (p := ⟨bp, op + t, none⟩) hbp).trans (by rw [← hq]; exact hcp t hlt)
      have XL : ∀ W, Below w.heap.size w W → W.cell? ⟨bl, ol + t * 2, none⟩ = some (.int .i64 (g (t * 2))) ∧ W.cell? ⟨bl, ol + t * 2 + 1, none⟩ = some (.int .i64 (g (t * 2 + 1))) := fun W h => ⟨(h.cell (p := ⟨bl, ol + t * 2, none⟩) hbl).trans (Blk.cells_at hcl htn).1, (h.cell (p := ⟨bl, ol + t * 2 + 1, none⟩) hbl).trans (Blk.cells_at hcl htn).2⟩
      have x0 := XP _ HS.out.bel
      obtain ⟨y0, y1⟩ := XL _ HS.out.bel
      have z0 : wr.cell? ⟨w.heap.size, q, none⟩ = some (.int .i64 (WD t q)) := HS.out.wid.2.1 q hq9
      have z1 := HS.out.wid.2.2 q
      have u1 := WI.out t (by omega) q
      have u2 := BI.out t htn
      obtain ⟨s1, s2⟩ := WS.out t q hq
      obtain ⟨s3, s4⟩ := TS.out t q hq
      have HS2 := Lib.hid (HS.out.setW (z := q) (f' := WD (t + 1)) s2)
      have HT2 := Lib.hid s4
      have CMt := Lib.hid (fun w => CM.out (HT t q) (g (t * 2 + 1)) w)
      rw [← s3] at CMt
      rw [s1] at HS2
      have t2 : IntKind.i64.wrap (WD t q + g (t * 2)) = WD t q + g (t * 2) := IntWalk.i64_in _ (by omega)
      have HXP := Lib.hid XP
      have HXL := Lib.hid XL
      clear XP XL s1 s2 s3 s4 hcp hcl CM WS TS HA HR HP WI TI BI S0 hq HS hbp hbl
      generalize g (t * 2) = g0 at *
      generalize g (t * 2 + 1) = g1 at *
      generalize WD t q = v0 at *
      generalize hh0 : HT t q = h0 at *
      go_upto_region 6 with fail
      clear y1
      go_region
      all_goals
        generalize hws : World.setCell wr _ _ = ws at HS2 ⊢
        have a0 := HXP.out _ HS2.out.bel
        obtain ⟨a1, a2⟩ := HXL.out _ HS2.out.bel
        have a3 : ws.cell? ⟨w.heap.size + 1, q, none⟩ = some (.int .i64 h0) := (HS2.out.hei.2.1 q hq9).trans (by rw [hh0])
        have a4 := HS2.out.hei.2.2 q
        have c0 : ws.drew.cell? ⟨bp, op + t, none⟩ = _ := a0
        have c2 : ws.drew.cell? ⟨bl, ol + t * 2 + 1, none⟩ = _ := a2
        have c3 : ws.drew.cell? ⟨w.heap.size + 1, q, none⟩ = _ := a3
        have c4 : ws.drew.frozen? ⟨w.heap.size + 1, q, none⟩ = _ := a4
        have HF := Lib.hid (HS2.out.setH (z := q) (h' := HT (t + 1)) HT2.out)
        clear hws x0 y0 z0 z1 HXP HXL HS2 HT2 a1 t2
        generalize HT (t + 1) q = h1 at CMt HF
        go_wp2_with fail
        go_region_with (go_at_call 72; refine (CMt.out _).mono ?_; rintro e wn ⟨rfl, rfl⟩)
        all_goals
          go_wp2_with fail
          go_roundw
          case rel => exact ⟨t + 1, ht1, by go_num, by first | exact HF | exact Lib.hid HF.out.drew | exact Lib.hid HF.out.drew.drew⟩
          case measure => simp [intOf]; omega
    · obtain rfl : t = m := by omega
      have e1 : ¬ (t : Int) < (t : Int) := by omega
      clear CM WS TS HA HR HP WI TI BI S0
      go_wp2_with fail
      exact bodyPost_ret (v := .tuple #[.slice (some ⟨w.heap.size, 0, none⟩) 9 9, .slice (some ⟨w.heap.size + 1, 0, none⟩) 9 9]) (by simp [results, Try.results77, go_sem]) rfl ⟨rfl, HS.out⟩
end Go.Proofs.Ytgclhkiiaclkgab.Jt
