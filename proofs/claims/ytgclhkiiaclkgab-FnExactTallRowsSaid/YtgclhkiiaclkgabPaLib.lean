/- Blocks on a roll: the program's valid blocks, areas, turned blocks. -/
import Derived.Test.YtgclhkiiaclkgabN1Lib
import Derived.BigQuiet
import Derived.Deep.DeepCutAuto
namespace Go.Proofs.Ytgclhkiiaclkgab.Pa
set_option linter.unusedVariables false
open Go.RowKit Is Ge Qb Jr Js Jx N1
open Go.Proofs.Ytgclhkiiaclkgab.Ba (inB below_then below_box)

abbrev blO (a b : Int) : Obj := .cells #[.int .i64 a, .int .i64 b] 54
theorem ivalid (a b roll : Int) (w : World) : Calls Try.prog 55 #[Blk.reV a b, .int .i64 roll] w fun e w' => e = .returned (.bool (blkB roll a b)) ∧ Below w.heap.size w w' := by
  have C0 := Lib.hid (fun w => Ba.within_any a 1 roll w)
  have C1 := Lib.hid (fun w => Ba.within_any b 1 5000 w)
  have HB := Lib.hid (below_box w (blO a b))
  unfold blkB
  generalize inB a 1 roll = r0 at C0 ⊢
  generalize inB b 1 5000 = r1 at C1 ⊢
  go_enter Try.func55, Try.ntmps55
  go_wp2_with fail
  refine (C0.out _).mono ?_
  rintro e w' ⟨rfl, rfl⟩
  cases r0
  · go_wp2_with fail
    go_ret
    exact ⟨rfl, HB.out⟩
  go_wp2_with fail
  refine (C1.out _).mono ?_
  rintro e w' ⟨rfl, rfl⟩
  go_wp2_with fail
  go_ret
  exact ⟨rfl, HB.out⟩
set_option maxRecDepth 100000 in
theorem impl_vb (A : Option Addr) (n c : Nat) (g : Nat → Int) (roll : Int) (hn : n ≤ 1048576) (w : World) (hA : Nums w w.heap.size A (n * 2) g) :
    Calls Try.prog 18 #[.slice A n c, .int .i64 roll] w fun e w' => e = .returned (.bool (tv (BlP roll n g))) ∧ Below w.heap.size w w' := by
  have HA := Lib.hid hA
  have CR := Lib.hid (fun w => Ba.within_any roll 1 5000 w)
  have HN : Hid (∀ k, k < n → blkB roll (g (k * 2)) (g (k * 2 + 1)) = false → tv (BlP roll n g) = false) := Lib.hid fun k hk h => tv_no fun e => by rw [e.2 k hk] at h; cases h
  have HL : Hid ((9 : Int) < (n : Int) → tv (BlP roll n g) = false) := Lib.hid fun h => tv_no fun e => by have := e.1.2; omega
  have HR : Hid (inB roll 1 5000 = false → tv (BlP roll n g) = false) := Lib.hid fun h => tv_no fun e => by have := e.1.1; rw [h] at this; cases this
  have HY : Hid (¬ (9 : Int) < (n : Int) → inB roll 1 5000 = true → (∀ k, k < n → blkB roll (g (k * 2)) (g (k * 2 + 1)) = true) → tv (BlP roll n g) = true) := Lib.hid fun q r h => tv_yes ⟨⟨r, by omega⟩, h⟩
  generalize tv (BlP roll n g) = r at HN HY HL HR ⊢
  generalize inB roll 1 5000 = ir at CR HR HY
  clear hA
  by_cases h9 : (9 : Int) < (n : Int)
  · have HF := Lib.hid (HL.out h9)
    go_enter Try.func18, Try.ntmps18
    go_wp2_with fail
    go_ret
    exact ⟨Ba.ret_bool HF.out.symm, Below.refl _ _⟩
  have h9b : (n : Int) ≤ 9 := by omega
  have HY2 := Lib.hid (HY.out h9)
  clear HL HY h9
  cases ir
  · have HF := Lib.hid (HR.out rfl)
    clear HR HY2 HN
    go_enter Try.func18, Try.ntmps18
    go_wp2_with fail
    refine (CR.out _).mono ?_
    rintro e w' ⟨rfl, rfl⟩
    go_wp2_with fail
    go_ret
    exact ⟨Ba.ret_bool HF.out.symm, Below.refl _ _⟩
  have HY3 := Lib.hid (HY2.out rfl)
  clear HR HY2
  go_enter Try.func18, Try.ntmps18
  go_wp2_with fail
  refine (CR.out _).mono ?_
  rintro e w' ⟨rfl, rfl⟩
  go_wp2_with fail
  go_loopw [6, 17] (fun _ i wr => ∃ k : Nat, k ≤ n ∧ i = .int .i64 (k : Int) ∧ Hid (Below w.heap.size w wr) ∧ Hid (∀ j, j < k → blkB roll (g (j * 2)) (g (j * 2 + 1)) = true)) (fun _ i _ => n - (intOf i).toNat)
  case atStart => exact ⟨0, Nat.zero_le _, rfl, Lib.hid (Below.refl _ _), Lib.hid fun j hj => by omega⟩
  case round =>
    obtain ⟨k, hk, rfl, HB, hall⟩ := hrel
    have e0 : (0 : Int) ≤ (k : Int) := Int.natCast_nonneg _
    by_cases hlt : k < n
    · obtain ⟨b, off, rfl, hb, hc⟩ := (HA.out.below HB.out (Nat.le_refl _)) (by omega)
      obtain ⟨x0, x1⟩ := Blk.cells_at hc hlt
      have HNk := Lib.hid (HN.out k hlt)
      have HS := Lib.hid (fun h => step_all (p := fun j => blkB roll (g (j * 2)) (g (j * 2 + 1))) hall.out (k := k) h)
      have C := Lib.hid (fun w => ivalid (g (k * 2)) (g (k * 2 + 1)) roll w)
      have e1 : (k : Int) < (n : Int) := by omega
      have hk1 : k + 1 ≤ n := by omega
      generalize blkB roll (g (k * 2)) (g (k * 2 + 1)) = q at HNk HS C
      generalize g (k * 2) = u0 at x0 C
      generalize g (k * 2 + 1) = u1 at x1 C
      have HX := Lib.hid (below_then HB.out (below_box wr (blO u0 u1)))
      clear hc hk
      go_wp2_with fail
      refine (C.out _).mono ?_
      rintro e w1 ⟨rfl, b1⟩
      have HQ := Lib.hid (below_then HX.out b1)
      clear b1 x0 x1 C HX
      cases q
      · have HF := Lib.hid (HNk.out rfl)
        go_wp2_with fail
        go_ret
        exact ⟨Ba.ret_bool HF.out.symm, HQ.out⟩
      · have HD := Lib.hid (HS.out rfl)
        go_wp2_with fail
        go_roundw
        case rel => exact ⟨k + 1, hk1, by go_num, HQ, HD⟩
        case measure => simp [intOf]; omega
    · obtain rfl : k = n := by omega
      have HF := Lib.hid (HY3.out hall.out)
      go_wp2_with fail
      go_ret
      exact ⟨Ba.ret_bool HF.out.symm, HB.out⟩
/-- One box that is known, and what lay before. -/
structure Bx (w wr : World) (o : Obj) : Prop where
  bel : Below w.heap.size w wr
  box : wr.heap[w.heap.size]? = some o
theorem Bx.of (w : World) (o : Obj) : Bx w (w.alloc o) o := ⟨below_box _ _, heap_alloc_new _ _⟩
theorem Bx.below {w wr w' : World} {o : Obj} (h : Bx w wr o) (hb : Below wr.heap.size wr w') : Bx w w' o := ⟨below_then h.bel hb, blk_keep hb h.box⟩
theorem blk2 {w : World} {g : Nat} {t : TypeId} {c0 c1 : Value} (h : w.heap[g]? = some (.cells #[c0, c1] t (0, 0))) : w.cell? ⟨g, 0, none⟩ = some c0 ∧ w.cell? ⟨g, 1, none⟩ = some c1 :=
  ⟨cell_of_row _ _ _ _ _ _ h, cell_of_row _ _ _ _ _ _ h⟩
/-- Two boxes that are known. -/
structure Bx2 (w wr : World) (o o2 : Obj) : Prop where
  bel : Below w.heap.size w wr
  box : wr.heap[w.heap.size]? = some o
  res : wr.heap[w.heap.size + 1]? = some o2
theorem Bx2.of (w : World) (o o2 : Obj) : Bx2 w ((w.alloc o).alloc o2) o o2 := ⟨below2 w o o2, (two w o o2).1, (two w o o2).2⟩
theorem Bx2.below {w wr w' : World} {o o2 : Obj} (h : Bx2 w wr o o2) (hb : Below wr.heap.size wr w') : Bx2 w w' o o2 := ⟨below_then h.bel hb, blk_keep hb h.box, blk_keep hb h.res⟩
set_option maxHeartbeats 1000000 in
theorem iturned (a b roll : Int) (w : World) : Calls Try.prog 76 #[Blk.reV a b, .int .i64 roll] w fun e w' => e = .returned (Blk.reV (if tn roll a b = true then b else a) (if tn roll a b = true then a else b)) ∧ Below w.heap.size w w' := by
  have BX := Lib.hid (Bx2.of w (blO a b) (blO 0 0))
  have HF := Lib.hid (fun x y => (BX.out.bel.setCell (p := ⟨w.heap.size + 1, 0, none⟩) (Nat.le_succ _) (.int .i64 x)).setCell (p := ⟨w.heap.size + 1, 1, none⟩) (Nat.le_succ _) (.int .i64 y))
  by_cases h1 : a < b
  · by_cases h2 : b ≤ roll
    · have ht : tn roll a b = true := decide_eq_true ⟨h1, h2⟩
      rw [ht, if_pos rfl, if_pos rfl]
      go_enter Try.func76, Try.ntmps76
      go_upto_region 1 with fail
      generalize hw9 : World.alloc _ _ = w0 at BX HF ⊢
      clear hw9
      obtain ⟨y0, y1⟩ := blk2 BX.out.box
      have hfr := blk_free BX.out.res
      obtain ⟨z0, z1⟩ := blk2 BX.out.res
      go_wp2_with fail
      exact bodyPost_ret (v := .agg #[.int .i64 b, .int .i64 a]) (by simp [results, Try.results76, go_sem, z0, z1]) rfl ⟨rfl, HF.out _ _⟩
    · have ht : tn roll a b = false := decide_eq_false fun h => h2 h.2
      rw [ht]
      go_enter Try.func76, Try.ntmps76
      go_upto_region 1 with fail
      generalize hw9 : World.alloc _ _ = w0 at BX HF ⊢
      clear hw9
      obtain ⟨y0, y1⟩ := blk2 BX.out.box
      have hfr := blk_free BX.out.res
      obtain ⟨z0, z1⟩ := blk2 BX.out.res
      go_wp2_with fail
      exact bodyPost_ret (v := .agg #[.int .i64 a, .int .i64 b]) (by simp [results, Try.results76, go_sem, z0, z1]) rfl ⟨rfl, HF.out _ _⟩
  · have ht : tn roll a b = false := decide_eq_false fun h => h1 h.1
    rw [ht]
    go_enter Try.func76, Try.ntmps76
    go_upto_region 1 with fail
    generalize hw9 : World.alloc _ _ = w0 at BX HF ⊢
    clear hw9
    obtain ⟨y0, y1⟩ := blk2 BX.out.box
    have hfr := blk_free BX.out.res
    obtain ⟨z0, z1⟩ := blk2 BX.out.res
    go_wp2_with fail
    exact bodyPost_ret (v := .agg #[.int .i64 a, .int .i64 b]) (by simp [results, Try.results76, go_sem, z0, z1]) rfl ⟨rfl, HF.out _ _⟩
theorem tb_all {roll : Int} {g : Nat → Int} {n k : Nat} (hk : k < n) : tb roll g n (k * 2) = (if tn roll (g (k * 2)) (g (k * 2 + 1)) = true then g (k * 2 + 1) else g (k * 2)) ∧ tb roll g n (k * 2 + 1) = (if tn roll (g (k * 2)) (g (k * 2 + 1)) = true then g (k * 2) else g (k * 2 + 1)) := by
  unfold tb
  rw [show k * 2 / 2 = k by omega, show (k * 2 + 1) / 2 = k by omega, show k * 2 % 2 = 0 by omega, show (k * 2 + 1) % 2 = 1 by omega]
  cases h : tn roll (g (k * 2)) (g (k * 2 + 1)) <;> simp [hk]
theorem row_start2 (w : World) (k : Nat) (hk : k ≤ 1048576) (f : Nat → Int) : (w.alloc (.cells (Go.madeCells #[Value.int .i64 0, Value.int .i64 0] (k * 2)) 54)).ownsRow w.heap.size 54 2 (.slice (some ⟨w.heap.size, 0, none⟩) 0 k) 0 (upto f (0 * 2)) :=
  ⟨rfl, .inr ⟨_, k, _, rfl, Nat.le_refl _, heap_alloc_new _ _, by omega, by unfold maxLen; omega, by rw [size_madeCells], rfl⟩⟩
theorem make_row2 (n : Nat) (hn : n ≤ 1048576) (w : World) : (Instr.makeSlice 25 (.int .i64 0) (.int .i64 (n : Int))).run Try.prog w = .ok (.slice (some ⟨w.heap.size, 0, none⟩) 0 n) (w.alloc (.cells (Go.madeCells (Value.agg #[Value.int .i64 0, Value.int .i64 0]).cells (n * 2)) 54)) := by
  obtain ⟨i0, hi0, hz0, hz1, hz2⟩ := info_parts Blk.info_re
  have := run_make w _ _ i0 _ Try.underlying25 hi0 hz0 .i64 .i64 0 n (by omega) (by omega) (by rw [hz2]; omega) (by omega)
  rw [hz1] at this
  simpa using this
set_option maxRecDepth 100000 in
set_option maxHeartbeats 4000000 in
theorem impl_tb (A : Option Addr) (n c : Nat) (g : Nat → Int) (roll : Int) (hn : n ≤ 1048576) (w : World) (hA : Nums w w.heap.size A (n * 2) g) :
    Calls Try.prog 41 #[.slice A n c, .int .i64 roll] w (TurnAt roll n g w) := by
  have C := Lib.hid (impl_vb A n c g roll hn w hA)
  have HA := Lib.hid hA
  have V0 := Lib.hid (fun h W (hb : Below w.heap.size w W) => turn_no (roll := roll) (n := n) (g := g) h hb)
  have V1 : Hid (tv (BlP roll n g) = true → ∀ w1 w' v, w'.ownsRow w1.heap.size 54 2 v n (upto (tb roll g n) (n * 2)) → Below w.heap.size w w1 → Below w1.heap.size w1 w' → TurnAt roll n g w (.returned (.tuple #[v, .int .i64 0])) w') := Lib.hid fun h w1 w' v hv h1 hb => by
    obtain ⟨B, cap, rfl, ho⟩ := Blk.own_of_row hv
    unfold TurnAt rwN blC
    rw [if_pos h, if_pos h]
    exact ⟨B, cap, rfl, Lib.hid (Bw.own_later ho h1.size), below_then h1 hb⟩
  have NI := Lib.hid (fun (h : tv (BlP roll n g) = true) => (tv_iff.1 h).1.2)
  have HT : Hid (∀ k, k < n → upto (tb roll g n) ((k + 1) * 2) = upto (tb roll g n) (k * 2) ++ [.int .i64 (if tn roll (g (k * 2)) (g (k * 2 + 1)) = true then g (k * 2 + 1) else g (k * 2)), .int .i64 (if tn roll (g (k * 2)) (g (k * 2 + 1)) = true then g (k * 2) else g (k * 2 + 1))]) := Lib.hid fun k hk => by
    rw [Blk.upto_next, (tb_all hk).1, (tb_all hk).2]
  obtain ⟨i0, hi0, hz0, hz1, hz2⟩ := info_parts Blk.info_re
  have HIn := Lib.hid (And.intro hi0 (And.intro hz0 (And.intro hz1 hz2)))
  have HMK := Lib.hid (fun w => make_row2 n hn w)
  clear hA hi0 hz0 hz1 hz2
  generalize TurnAt roll n g w = Q at V0 V1 ⊢
  generalize tv (BlP roll n g) = ok at *
  cases ok
  · have HF := Lib.hid (V0.out rfl)
    clear V0 V1 NI
    go_enter Try.func41, Try.ntmps41
    go_wp2_with fail
    refine C.out.mono ?_
    rintro e w1 ⟨rfl, b1⟩
    have HF1 := Lib.hid (HF.out _ b1)
    clear b1 HF
    go_wp2_with fail
    exact HF1.out
  have W1 := Lib.hid (V1.out rfl)
  have hn9 := NI.out rfl
  clear V0 V1 NI
  go_enter Try.func41, Try.ntmps41
  go_wp2_with fail
  refine C.out.mono ?_
  rintro e w1 ⟨rfl, b1⟩
  have HB1 := Lib.hid b1
  have HA1 := Lib.hid ((HA.out.below b1 (Nat.le_refl _)).more b1.size)
  clear b1 C HA
  have B0 := Lib.hid (below_box w1 (.cells (Go.madeCells #[Value.int .i64 0, Value.int .i64 0] (n * 2)) 54))
  have R0 := Lib.hid (row_start2 w1 n hn (tb roll g n))
  have hkm := HMK.out w1
  have k0 : (0 : Int) ≤ (n : Int) := Int.natCast_nonneg _
  go_wp2_with fail
  clear hkm HMK
  go_loopw [6, 8, 18] (fun o _ u wr => ∃ (r : Nat) (v : Value), r ≤ n ∧ v = o ∧ u = .int .i64 (r : Int) ∧ Hid (Below w1.heap.size w1 wr) ∧ Hid (wr.ownsRow w1.heap.size 54 2 v r (upto (tb roll g n) (r * 2)))) (fun _ _ u _ => n - (intOf u).toNat)
  case atStart => exact ⟨0, _, Nat.zero_le _, rfl, rfl, B0, R0⟩
  case round =>
    obtain ⟨r, v, hr, rfl, rfl, HW, HO⟩ := hrel
    have i0' : (0 : Int) ≤ (r : Int) := Int.natCast_nonneg _
    by_cases hrl : r < n
    · have i1 : (r : Int) < (n : Int) := by omega
      obtain ⟨b, off, rfl, hb, hc⟩ := HA1.out.below HW.out (Nat.le_refl _) (by omega)
      obtain ⟨x0, x1⟩ := Blk.cells_at hc hrl
      have HU := Lib.hid (HT.out r hrl)
      have C := Lib.hid (fun w => iturned (g (r * 2)) (g (r * 2 + 1)) roll w)
      have hr1 : r + 1 ≤ n := by omega
      generalize (if tn roll (g (r * 2)) (g (r * 2 + 1)) = true then g (r * 2 + 1) else g (r * 2)) = y0 at C HU
      generalize (if tn roll (g (r * 2)) (g (r * 2 + 1)) = true then g (r * 2) else g (r * 2 + 1)) = y1 at C HU
      generalize g (r * 2) = u0 at x0 C
      generalize g (r * 2 + 1) = u1 at x1 C
      have HX := Lib.hid (below_then HW.out (below_box wr (blO u0 u1)))
      have HY := Lib.hid (row_below HO.out (below_box wr (blO u0 u1)))
      clear hc HT HW HO
      go_wp2_with fail
      refine (C.out _).mono ?_
      rintro e w2 ⟨rfl, b2⟩
      have HX2 := Lib.hid (below_then HX.out b2)
      have HY2 := Lib.hid (row_below HY.out b2)
      have hsz := HX2.out.size
      clear b2 C HX HY x0 x1 hb
      generalize hcl : upto (tb roll g n) (r * 2) = cl at HY2 HU
      go_wp2_with (at_builtin; refine wpList_append_own _ rfl _ _ 25 rfl w1.heap.size 54 i0 _ 2 16 Try.underlying25 HIn.out.1 HIn.out.2.1 HIn.out.2.2.1 HIn.out.2.2.2 rfl (by decide) _ _ _ rfl (HY2.out.alloc _) ⟨w2.heap.size, 0, none⟩ 1 1 [.int .i64 y0, .int .i64 y1] rfl rfl ?c1 ?c2 ?c3 ?c4 ?c5 ?_)
      try case c1 => exact Blk.cells_new _ _ _ _
      try case c2 => simp [Value.oneCell']
      try case c3 => unfold maxLen; omega
      try case c4 => omega
      try case c5 => first | omega | (simp <;> omega)
      intro v' w6 hown2 hgrow _
      have HQ6 := Lib.hid ((HX2.out.alloc hsz _).grown hgrow (by simp; omega) fun g hg => (HY2.out.lt g hg).1)
      have HO6 : Hid (w6.ownsRow w1.heap.size 54 2 v' (r + 1) (upto (tb roll g n) ((r + 1) * 2))) := Lib.hid (by rw [HU.out]; exact hown2)
      clear hown2 hgrow
      go_wp2_with fail
      go_roundw
      case rel => exact ⟨r + 1, _, hr1, rfl, by go_num, HQ6, HO6⟩
      case measure => simp [intOf]; omega
    · obtain rfl : r = n := by omega
      have i1 : ¬ (r : Int) < (r : Int) := by omega
      have HZ := Lib.hid (W1.out w1 wr v HO.out HB1.out HW.out)
      clear HT W1
      go_wp2_with fail
      exact HZ.out
theorem iarea (a b : Int) (ha : 0 ≤ a ∧ a ≤ 5000) (hb : 0 ≤ b ∧ b ≤ 5000) (w : World) : Calls Try.prog 92 #[Blk.reV a b] w fun e w' => e = .returned (.int .i64 (a * b)) ∧ Below w.heap.size w w' := by
  have h2 := prod_in ha hb
  have HB := Lib.hid (below_box w (blO a b))
  have t1 : IntKind.i64.wrap (a * b) = a * b := IntWalk.i64_in _ (by omega)
  go_enter Try.func92, Try.ntmps92
  go_wp2_with fail
  go_ret
  exact ⟨rfl, HB.out⟩
end Go.Proofs.Ytgclhkiiaclkgab.Pa
