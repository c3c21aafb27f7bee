/- Blocks on a roll: the program's PlacesOnRoll. -/
import Derived.Test.YtgclhkiiaclkgabPfLib
import Derived.Test.YtgclhkiiaclkgabN5Lib
import Derived.Test.YtgclhkiiaclkgabQtLib
import Derived.Deep.RegionHeld3
import Derived.Deep.AppendLies
namespace Go.Proofs.Ytgclhkiiaclkgab.Ph
set_option linter.unusedVariables false
open Go.RowKit Is Ge Qb Jr Js Jt Ju Jw Jx Pa P5 Pb Pc Pd Pe Pf N4 N5
open Go.Proofs.Ytgclhkiiaclkgab.Ba (inB below_then below_box)

abbrev niO : Obj := .cells #[.int .i64 0, .int .i64 0, .int .i64 0, .int .i64 0, .int .i64 0, .int .i64 0, .int .i64 0, .int .i64 0, .int .i64 0] 85
theorem at_niO {w : World} {g : Nat} {f : Nat → Int} (h : w.heap[g]? = some niO) (hf : ∀ k, f k = 0) : At w g 9 f := by
  refine ⟨Ge.lt_of_heap h, fun k hk => ?_, blk_free h⟩
  rw [hf k]
  rcases nine hk with rfl | rfl | rfl | rfl | rfl | rfl | rfl | rfl | rfl <;> exact cell_of_row _ _ _ _ _ _ h
theorem row_starts (w : World) (k : Nat) (hk : k ≤ 1048576) (d : Nat → Nat → Int) : R2 (w.alloc (.cells (Go.madeCells #[Value.slice none 0 0] k) 30)) w.heap.size (.slice (some ⟨w.heap.size, 0, none⟩) 0 k) 0 d (fun _ => 0) :=
  ⟨⟨rfl, .inr ⟨_, k, _, rfl, Nat.le_refl _, heap_alloc_new _ _, by omega, by unfold maxLen; omega, by rw [size_madeCells]; omega, rfl⟩⟩, fun r hr => by omega, fun r s _ hs => by omega⟩
theorem make_rows (n : Nat) (hn : n ≤ 1048576) (w : World) : (Instr.makeSlice 48 (.int .i64 0) (.int .i64 (n : Int))).run Try.prog w = .ok (.slice (some ⟨w.heap.size, 0, none⟩) 0 n) (w.alloc (.cells (Go.madeCells (Value.slice none 0 0).cells (n * 1)) 30)) := by
  obtain ⟨i0, hi0, hz0, hz1, hz2⟩ := info_parts info_rows
  have := run_make w _ _ i0 _ Try.underlying48 hi0 hz0 .i64 .i64 0 n (by omega) (by omega) (by rw [hz2]; omega) (by omega)
  rw [hz1] at this
  simpa using this
/-- The blocks while places are made: the nest, across and along. -/
structure Pl (w wr : World) (gn ga gl : Nat) (o : Obj) (fa fl : Nat → Int) : Prop where
  bel : Below w.heap.size w wr
  box : wr.heap[gn]? = some o
  acr : At wr ga 9 fa
  alo : At wr gl 9 fl
  ord : w.heap.size ≤ gn ∧ gn < ga ∧ ga < gl
theorem Pl.below {w wr w' : World} {gn ga gl : Nat} {o : Obj} {fa fl : Nat → Int} (h : Pl w wr gn ga gl o fa fl) (hb : Below wr.heap.size wr w') : Pl w w' gn ga gl o fa fl := ⟨below_then h.bel hb, Ge.blk_keep hb h.box, h.acr.below hb, h.alo.below hb, h.ord⟩
theorem Pl.setL {w wr : World} {gn ga gl : Nat} {o : Obj} {fa fl fl' : Nat → Int} {z : Nat} (h : Pl w wr gn ga gl o fa fl) (hf : ∀ j, j ≠ z → fl' j = fl j) : Pl w (wr.setCell ⟨gl, z, none⟩ (.int .i64 (fl' z))) gn ga gl o fa fl' := by
  have := h.ord
  exact ⟨h.bel.setCell (p := ⟨gl, z, none⟩) (by show w.heap.size ≤ gl; omega) _, (Below.heap_setCell _ _ _ _ (by show gn ≠ gl; omega)).trans h.box, h.acr.set (by omega), at_set h.alo hf, h.ord⟩
theorem Pl.setA {w wr : World} {gn ga gl : Nat} {o : Obj} {fa fl fa' : Nat → Int} {z : Nat} (h : Pl w wr gn ga gl o fa fl) (hf : ∀ j, j ≠ z → fa' j = fa j) : Pl w (wr.setCell ⟨ga, z, none⟩ (.int .i64 (fa' z))) gn ga gl o fa' fl := by
  have := h.ord
  exact ⟨h.bel.setCell (p := ⟨ga, z, none⟩) (by show w.heap.size ≤ ga; omega) _, (Below.heap_setCell _ _ _ _ (by show gn ≠ ga; omega)).trans h.box, at_set h.acr hf, h.alo.set (by omega), h.ord⟩
theorem fn_cell {w : World} {x : Nat} {A : Option Addr} {n c : Nat} {roll : Int} {f : Nat → Nat} (h : w.heap[x]? = some (fnO A n c roll f)) {k : Nat} (hk : k < 9) : w.cell? ⟨x, 2 + k, none⟩ = some (.int .u16 (f k : Int)) := by
  rcases nine hk with rfl | rfl | rfl | rfl | rfl | rfl | rfl | rfl | rfl <;> exact cell_of_row _ _ _ _ _ _ h
/-- The heights of the rows ahead, as far as they are made. -/
def upL (hf : Nat → Int) (j i : Nat) : Int := if i < j then hi hf i else 0
theorem at_up {w : World} {x : Nat} {hf : Nat → Int} (h : At w x 9 (upL hf 9)) : At w x 9 (hi hf) := ⟨h.1, fun k hk => by have := h.2.1 k hk; unfold upL at this; rwa [if_pos hk] at this, h.2.2⟩
set_option maxRecDepth 100000 in
set_option maxHeartbeats 8000000 in
theorem impl_pl (A : Option Addr) (n c : Nat) (g : Nat → Int) (roll : Int) (P : Option Addr) (m pc : Nat) (p : Nat → Int) (hn : n ≤ 1048576) (hm : m ≤ 1048576) (w : World) (hA : Nums w w.heap.size A (n * 2) g) (hR : Nums w w.heap.size P m p) :
    Calls Try.prog 44 #[.slice A n c, .int .i64 roll, .slice P m pc] w (PlAt roll n g m p w) := by
  have HA := Lib.hid hA
  have HR := Lib.hid hR
  have CN := Lib.hid (isound A n c g roll P m pc p hn hm w hA hR)
  have V0 : Hid (¬ rfC roll n g m p = 0 → ∀ w', Below w.heap.size w w' → PlAt roll n g m p w (.returned (.tuple #[.slice none 0 0, .int .i64 (rfC roll n g m p)])) w') := Lib.hid fun h w' hb => by
    unfold PlAt plN
    rw [if_neg h]
    exact post_none hb _
  have V1 : Hid (rfC roll n g m p = 0 → ∀ w1 w' v G, R2 w' w1.heap.size v n (plD g p m) G → Below w.heap.size w w1 → Below w.heap.size w w' → PlAt roll n g m p w (.returned (.tuple #[v, .int .i64 0])) w') := Lib.hid fun h w1 w' v G h1 h2 h3 => by
    unfold PlAt plN
    rw [if_pos h, h]
    exact post_rows h1 h2 h3
  have MN := Lib.hid (fun (h : rfC roll n g m p = 0) => rf_n h)
  have FI := Lib.hid (fun (h : rfC roll n g m p = 0) => And.intro (fun t (ht : t ≤ n) => wd_in p (ro_use (rf_ro h)).1 ht) (And.intro (hi_in (ht_in p (ro_use (rf_ro h)).1 (ro_use (rf_ro h)).2.2)) (And.intro (ht_in p (ro_use (rf_ro h)).1 (ro_use (rf_ro h)).2.2) (And.intro (ro_use (rf_ro h)).2.1 (fun k (hk : k < n) => blk_in ((ro_use (rf_ro h)).1.2 k hk))))))
  have RI := Lib.hid (fun (h : rfC roll n g m p = 0) => inb (ro_use (rf_ro h)).1.1.1)
  have CH : Hid (rfC roll n g m p = 0 → ∀ k w, Nums w w.heap.size A (n * 2) g → Calls Try.prog 78 #[neV A n c roll, .int .u16 (rs p k m : Int)] w fun e w' => e = .returned (.int .i64 (ht g p m k)) ∧ Below w.heap.size w w') := Lib.hid fun h k w hw => by
    obtain ⟨h1, h2, h3⟩ := ro_ok (rf_ro h)
    subst h3
    rw [← hs_rs g p k m (Nat.le_refl m)]
    exact iheight A m c g roll _ h1 (rs_all p m (by have := h1.1.2; omega) k) w hw
  obtain ⟨i0, hi0, hz0, hz1, hz2⟩ := info_parts info_rows
  have HI := Lib.hid (And.intro hi0 (And.intro hz0 (And.intro hz1 hz2)))
  have HMK := Lib.hid (fun w => make_rows n hn w)
  clear hA hR hi0 hz0 hz1 hz2
  generalize PlAt roll n g m p w = Q at V0 V1 ⊢
  generalize rfC roll n g m p = C at *
  obtain ⟨F, hF⟩ : ∃ F : Nat → Nat, (fun k => rs p k m) = F := ⟨_, rfl⟩
  have hF2 : ∀ k, rs p k m = F k := fun k => by rw [← hF]
  rw [hF] at CN
  simp only [hF2] at CH
  clear hF hF2
  by_cases h0 : C = 0
  rotate_left
  · have hne : (C != 0) = true := by simpa using h0
    rw [if_neg h0] at CN
    clear MN FI RI CH V1
    go_enter Try.func44, Try.ntmps44
    go_wp2_with fail
    refine CN.out.mono ?_
    rintro e w1 ⟨rfl, b1⟩
    have HF := Lib.hid (V0.out h0 _ (below_then b1 (below_box w1 (fnO none 0 0 0 (fun _ => 0)))))
    clear b1 CN HA HR V0
    go_wp2_with fail
    exact HF.out
  subst h0
  rw [if_pos rfl] at CN
  have HV := Lib.hid (V1.out rfl)
  obtain ⟨rfl, hn9⟩ := MN.out rfl
  have HF := Lib.hid (FI.out rfl)
  have HRI := Lib.hid (RI.out rfl)
  have CH1 := Lib.hid (CH.out rfl)
  clear V0 V1 MN FI RI CH hm
  have P0 : Hid (∀ i, plD g p m i 0 = wd g p i (p i).toNat ∧ plD g p m i 1 = hi (ht g p m) (p i).toNat) := Lib.hid fun i => ⟨rfl, rfl⟩
  have WS : Hid (∀ t q : Nat, p t = (q : Int) → wd g p (t + 1) q = wd g p t q + g (t * 2) ∧ ∀ j, j ≠ q → wd g p (t + 1) j = wd g p t j) := Lib.hid fun t q h => ⟨if_pos h, fun j hj => if_neg (by omega)⟩
  have W0 : Hid (∀ k, wd g p 0 k = 0) := Lib.hid fun k => rfl
  generalize plD g p m = d at *
  generalize wd g p = wf at *
  generalize ht g p m = hf at *
  have HS : Hid (∀ k, hi hf (k + 1) = hi hf k + hf k) := Lib.hid fun k => rfl
  go_enter Try.func44, Try.ntmps44
  go_wp2_with fail
  refine CN.out.mono ?_
  rintro e w1 ⟨rfl, b1⟩
  have HB := Lib.hid (below_then b1 (below_box w1 (fnO A m c roll F)))
  have KN := Lib.hid (heap_alloc_new w1 (fnO A m c roll F))
  have hs1 := b1.size
  clear b1 CN
  go_upto_region 4 with fail
  generalize hw9 : World.alloc _ _ = w2 at HB KN ⊢
  clear hw9
  generalize w1.heap.size = gn at *
  have PL : Hid (Pl w ((w2.alloc niO).alloc niO) gn w2.heap.size (w2.heap.size + 1) (fnO A m c roll F) (wf 0) (upL hf 1)) := Lib.hid (by
    obtain ⟨k1, k2⟩ := two w2 niO niO
    refine ⟨below_then HB.out (below2 w2 _ _), Ge.blk_keep (below2 w2 _ _) KN.out, at_niO k1 W0.out, at_niO k2 fun k => ?_, hs1, Ge.lt_of_heap KN.out, by omega⟩
    unfold upL
    split
    · obtain rfl : k = 0 := by omega
      rfl
    · rfl)
  clear HB KN hs1
  go_upto_region 5 with fail
  generalize hw9 : World.alloc _ _ = w3 at PL ⊢
  clear hw9
  generalize w2.heap.size = ga at *
  go_wp2_with fail
  go_loopw [12] (fun k wr => ∃ q : Nat, q ≤ 8 ∧ k = .int .i64 ((q : Int) + 1) ∧ Hid (Pl w wr gn ga (ga + 1) (fnO A m c roll F) (wf 0) (upL hf (q + 1)))) (fun k _ => 9 - (intOf k).toNat)
  case atStart => exact ⟨0, Nat.zero_le _, rfl, PL⟩
  case round =>
    obtain ⟨q, hq, rfl, HP⟩ := hrel
    have e0 : (0 : Int) ≤ (q : Int) := Int.natCast_nonneg _
    by_cases hlt : q < 8
    · have e1 : (q : Int) + 1 < 9 := by omega
      have e2 : (q : Int) < 9 := by omega
      have e3 : (q : Int) ≤ 7 := by omega
      have e4 : (q : Int) < 8 := by omega
      have e5 : (0 : Int) ≤ (q : Int) + 1 := by omega
      obtain ⟨_, f2, f3, _, _⟩ := HF.out
      have h2 := f2 q
      have h3 := f3 q
      have KEEP : Hid (∀ W : World, Below wr.heap.size wr W → (W.cell? ⟨gn, 0, none⟩ = some (.slice A m c) ∧ W.cell? ⟨gn, 1, none⟩ = some (.int .i64 roll) ∧ W.cell? ⟨gn, 2 + q, none⟩ = some (.int .u16 (F q : Int)) ∧ W.cell? ⟨ga + 1, q, none⟩ = some (.int .i64 (hi hf q)) ∧ W.cell? ⟨ga + 1, q + 1, none⟩ = some (.int .i64 0) ∧ W.frozen? ⟨ga + 1, q + 1, none⟩ = false) ∧ Pl w (W.setCell ⟨ga + 1, q + 1, none⟩ (.int .i64 (hi hf (q + 1)))) gn ga (ga + 1) (fnO A m c roll F) (wf 0) (upL hf (q + 1 + 1))) := Lib.hid fun W hW => by
        have hp := HP.out.below hW
        obtain ⟨z0, z1, _⟩ := blk11 hp.box
        have a0 := hp.alo.2.1 q (by omega)
        have a1 := hp.alo.2.1 (q + 1) (by omega)
        have u0 : upL hf (q + 1) q = hi hf q := if_pos (by omega)
        have u1 : upL hf (q + 1) (q + 1) = 0 := if_neg (by omega)
        rw [u0] at a0
        rw [u1] at a1
        refine ⟨⟨z0, z1, fn_cell hp.box (by omega), a0, a1, hp.alo.2.2 _⟩, ?_⟩
        have := hp.setL (fl' := upL hf (q + 1 + 1)) (z := q + 1) fun j hj => by
          unfold upL
          by_cases c1 : j < q + 1
          · rw [if_pos c1, if_pos (by omega)]
          · rw [if_neg c1, if_neg (by omega)]
        have u2 : upL hf (q + 1 + 1) (q + 1) = hi hf (q + 1) := if_pos (by omega)
        rwa [u2] at this
      have CH2 : Hid (∀ W : World, Below wr.heap.size wr W → Calls Try.prog 78 #[neV A m c roll, .int .u16 (F q : Int)] W fun e w' => e = .returned (.int .i64 (hf q)) ∧ Below W.heap.size W w') := Lib.hid fun W hW => CH1.out q W ((HA.out.below (HP.out.below hW).bel (Nat.le_refl _)).more (HP.out.below hW).bel.size)
      have HSq := HS.out q
      obtain ⟨⟨y0, y1, y2, y3, y4, y5⟩, _⟩ := KEEP.out wr (Below.refl _ _)
      rw [HSq] at KEEP
      have hw1 : IntKind.i64.wrap (hi hf q + hf q) = hi hf q + hf q := IntWalk.i64_in _ (by omega)
      have hq1 : q + 1 ≤ 8 := by omega
      clear HSq HP f2 f3
      generalize hi hf q = aq at *
      generalize hf q = hq2 at *
      generalize F q = xq at *
      go_upto_region 8 with fail
      have C1 := Lib.hid (fun p : Beyond wr => CH2.out p.to p.h)
      have z0 := bey_cell y0
      have z1 := bey_cell y1
      have z2 := bey_cell y2
      have z3 := bey_cell y3
      clear y0 y1 y2 y3 CH2
      refine Qt.wp_region_below_tail 15 (by kernel_rfl) (by kernel_rfl) ?_
      simp only [List.take_succ_cons, List.take_zero, List.drop_succ_cons, List.drop_zero]
      repeat (go_big_quiet_step ((go_at_call 78; with_reducible exact bey_of _ (C1.out _))))
      refine wpQuiet_nil ?_
      rintro _ ⟨p, rfl⟩
      obtain ⟨⟨y0, y1, y2, y3, y4, y5⟩, _⟩ := KEEP.out _ p.h
      have HQ := Lib.hid (KEEP.out _ p.h).2
      generalize p.to = wq at y0 y1 y2 y3 y4 y5 HQ ⊢
      clear KEEP
      go_wp2_with fail
      go_roundw
      case rel => exact ⟨q + 1, hq1, by go_num, by first | exact HQ | exact Lib.hid ⟨HQ.out.bel.drew, HQ.out.box, HQ.out.acr, HQ.out.alo, HQ.out.ord⟩⟩
      case measure => simp [intOf]; omega
    · have e1 : ¬ (q : Int) + 1 < 9 := by omega
      obtain ⟨hq8, hord⟩ : q = 8 ∧ w.heap.size ≤ gn ∧ gn < ga ∧ ga < ga + 1 := ⟨by omega, HP.out.ord⟩
      rw [hq8] at HP
      have HWz := HP.out.bel
      have HL0 := Lib.hid (at_up HP.out.alo)
      have HA0 := Lib.hid HP.out.acr
      have hm9 := HMK.out wr
      have B1 := Lib.hid (below_box wr (.cells (Go.madeCells #[Value.slice none 0 0] m) 30))
      have R0 := Lib.hid (row_starts wr m hn d)
      clear HP PL CH1 HS HMK
      have hsg := HL0.out.1
      go_upto_region 9 with fail
      have hm8 : m * 1 = m := Nat.mul_one m
      go_wp2_with fail
      generalize hgl : ga + 1 = gl at *
      have W1 := Lib.hid (below_then HWz B1.out)
      have A1 := Lib.hid (HA0.out.below B1.out)
      have L1 := Lib.hid (HL0.out.below B1.out)
      have hga : w.heap.size ≤ ga ∧ ga < wr.heap.size ∧ gl < wr.heap.size := ⟨by omega, HA0.out.1, hsg⟩
      generalize hw9 : World.alloc wr _ = wz at B1 R0 W1 A1 L1 ⊢
      clear hw9 hm9 HA0 HL0
      have hsB : wr.heap.size ≤ wz.heap.size := B1.out.size
      clear B1
      have hwB := HWz.size
      have HVB := Lib.hid (fun w' v G (h2 : R2 w' wr.heap.size v m d G) hb => HV.out wr w' v G h2 HWz hb)
      generalize wr.heap.size = B at *
      clear HWz HV
      go_loopw [13, 14, 15, 50] (fun o _ _ u wr => ∃ (t : Nat) (v : Value) (G : Nat → Nat), t ≤ m ∧ v = o ∧ u = .int .i64 (t : Int) ∧ Hid (Below w.heap.size w wr) ∧ Hid (At wr gl 9 (hi hf)) ∧ Hid (At wr ga 9 (wf t)) ∧ Hid (R2 wr B v t d G) ∧ B ≤ wr.heap.size) (fun _ _ _ u _ => m - (intOf u).toNat)
      case atStart => exact ⟨0, _, _, Nat.zero_le _, rfl, rfl, W1, L1, A1, R0, hsB⟩
      case round =>
        clear W1 L1 A1 R0 hsB
        obtain ⟨t, v, G, ht, rfl, rfl, HW, HH, HT, HO, hszr⟩ := hrel
        have e0 : (0 : Int) ≤ (t : Int) := Int.natCast_nonneg _
        by_cases htl : t < m
        · have e1 : (t : Int) < (m : Int) := by omega
          have ht1 : t + 1 ≤ m := by omega
          obtain ⟨f1, f2, f3, f4, f5⟩ := HF.out
          have g1 := f4 t htl
          obtain ⟨q, hq⟩ : ∃ q : Nat, p t = (q : Int) := ⟨(p t).toNat, by omega⟩
          have hq9 : q < 9 := by omega
          obtain ⟨bp, op, eP, hbp, hcp⟩ := HR.out (by omega)
          obtain ⟨bl, ol, eA, hbl, hcl⟩ := HA.out (by omega)
          subst eP
          subst eA
          have XP : ∀ W, Below w.heap.size w W → W.cell? ⟨bp, op + t, none⟩ = some (.int .i64 (q : Int)) := fun W h => by rw [← hq]; exact (h.cell (p := ⟨bp, op + t, none⟩) hbp).trans (hcp t htl)
          have XL : ∀ W, Below w.heap.size w W → W.cell? ⟨bl, ol + t * 2, none⟩ = some (.int .i64 (g (t * 2))) := fun W h => (h.cell (p := ⟨bl, ol + t * 2, none⟩) hbl).trans (Blk.cells_at hcl htl).1
          have x0 := XP _ HW.out
          have HXL := Lib.hid XL
          have u1 := f1 t (by omega) q
          have u2 := (f5 t htl).1
          obtain ⟨p0, p1⟩ := P0.out t
          rw [hq, Int.toNat_natCast] at p0 p1
          have HP0 := Lib.hid p0
          have HP1 := Lib.hid p1
          obtain ⟨s1, s2⟩ := WS.out t q hq
          have HS1 := Lib.hid s1
          have HS2 := Lib.hid s2
          clear f1 f2 f3 f4 f5 g1 hcp hcl XP XL p0 p1 s1 s2 WS P0 HF HR HA hq
          have e2 : (0 : Int) ≤ (q : Int) := Int.natCast_nonneg _
          have e3 : (q : Int) < 9 := by omega
          have e4 : (q : Int) ≤ 8 := by omega
          have y0 := HT.out.2.1 q (by omega)
          have y1 := HH.out.2.1 q (by omega)
          have na : some ga ≠ v.ownBlock := fun e => by have := (HO.out.out.lt _ e.symm).1; omega
          have nl : some gl ≠ v.ownBlock := fun e => by have := (HO.out.out.lt _ e.symm).1; omega
          generalize hFk : hi hf q = fk at *
          generalize hwk : wf t q = wk at *
          go_upto_region 13 with fail
          clear x0
          have B1 := below_box wr (.cells #[.int .i64 wk, .int .i64 fk] 2)
          have B2 := below_box (wr.alloc (.cells #[.int .i64 wk, .int .i64 fk] 2)) (.cells #[.slice (some ⟨wr.heap.size, 0, none⟩) 2 2] 30)
          have k1 := Ge.blk_keep B2 (heap_alloc_new wr (.cells #[.int .i64 wk, .int .i64 fk] 2))
          have k2 := heap_alloc_new (wr.alloc (.cells #[.int .i64 wk, .int .i64 fk] 2)) (.cells #[.slice (some ⟨wr.heap.size, 0, none⟩) 2 2] 30)
          have s1 : (wr.alloc (.cells #[.int .i64 wk, .int .i64 fk] 2)).heap.size = wr.heap.size + 1 := by simp
          rw [s1] at k2
          have HBB := Lib.hid (below_then B1 B2)
          have HK1 := Lib.hid k1
          have HK2 := Lib.hid k2
          clear B1 B2 k1 k2 s1
          generalize hsz : wr.heap.size = sz at HK1 HK2 HBB hszr ⊢
          go_region_held3 (fun w' => w'.cell? ⟨ga, q, none⟩ = some (.int .i64 wk) ∧ w'.cell? ⟨gl, q, none⟩ = some (.int .i64 fk))
            (first
              | go_keep
              | (go_split_ands
                 refine ⟨?_, ?_⟩
                 · (rw [hgrow.cell_far _ (by simp [hsz]; omega) na]; assumption)
                 · (rw [hgrow.cell_far _ (by simp [hsz]; omega) nl]; assumption)))
            (first
              | (refine step_append_lies _ (by rfl) _ _ _ (by rfl) B 30 i0 _ 1 24 Try.underlying48 HI.out.1 HI.out.2.1 HI.out.2.2.1 HI.out.2.2.2 rfl (by omega) v t _ (by rfl) ((HO.out.out.alloc _).alloc _).drew
                  ⟨sz + 1, 0, none⟩ 1 1 [.slice (some ⟨sz, 0, none⟩) 2 2] (by rfl) (by rfl) (World.news_of_block (cs := #[.slice (some ⟨sz, 0, none⟩) 2 2]) (t := 30) (fr := (0, 0)) HK2.out) (by simp [Value.oneCell'])
                  (by omega) (by unfold maxLen; omega) (by omega) (by simp; omega) (sz + 2) (by simp [hsz]) ?_; intro gg cap w6 hown1 hgrow hat hlt6))
          all_goals
            subst hsz
            have HO6 := Lib.hid (HO.out.step (gn := wr.heap.size) (Below.drew HBB.out) (Nat.le_refl _) (by rw [HP0.out, HP1.out]; exact HK1.out) hszr hown1 hgrow)
            have b6 := (((Below.drew HBB.out).mono hszr)).grown hgrow (Nat.le_trans hszr HBB.out.size) fun g hg => (HO.out.out.lt g hg).1
            have HW6 := Lib.hid (HW.out.trans (b6.mono hwB))
            have HH6 := Lib.hid (at_base HH.out (show gl < B by omega) b6)
            have HT6 := Lib.hid (at_base HT.out (show ga < B by omega) b6)
            have hs6 : B ≤ w6.heap.size := Nat.le_trans hszr b6.size
            have a1 := HXL.out _ HW6.out
            have a2 := HT6.out.2.1 q (by omega)
            have a3 := HT6.out.2.2 q
            rw [hwk] at a2
            have HWS := Lib.hid (HW6.out.setCell (p := ⟨ga, q, none⟩) (show w.heap.size ≤ ga by omega) (.int .i64 (wk + g (t * 2))))
            have HHS := Lib.hid (HH6.out.set (b := ga) (o := q) (u := .int .i64 (wk + g (t * 2))) (by omega))
            have HTS := Lib.hid (Jt.at_set (z := q) HT6.out HS2.out)
            rw [HS1.out] at HTS
            have HOS := Lib.hid (HO6.out.set (b := ga) (by omega) q (.int .i64 (wk + g (t * 2))))
            have hsS : B ≤ (w6.setCell ⟨ga, q, none⟩ (.int .i64 (wk + g (t * 2)))).heap.size := by rw [World.size_setCell]; exact hs6
            clear hown1 hgrow b6 HW HH HT HXL HP0 HP1 HS1 HS2 HW6 HH6 HT6 HO6 HO hs6 HK1 HK2 HBB hat hlt6 na nl y0 y1
            generalize g (t * 2) = gt at *
            have t1 : IntKind.i64.wrap (wk + gt) = wk + gt := IntWalk.i64_in _ (by have := HRI.out; omega)
            go_upto_region 14 with fail
            go_region
            all_goals
              clear a1 a2 a3 t1
              generalize World.setCell w6 _ _ = ws at *
              have HWD : Hid (Below w.heap.size w ws.drew) := Lib.hid HWS.out.drew
              have HHD : Hid (At ws.drew gl 9 (hi hf)) := Lib.hid ⟨HHS.out.1, HHS.out.2.1, HHS.out.2.2⟩
              have HTD : Hid (At ws.drew ga 9 (wf (t + 1))) := Lib.hid ⟨HTS.out.1, HTS.out.2.1, HTS.out.2.2⟩
              have HOD := Lib.hid HOS.out.drew
              go_wp2_with fail
              go_roundw
              case rel => exact ⟨t + 1, _, _, ht1, rfl, by go_num, by first | exact HWS | exact HWD, by first | exact HHS | exact HHD, by first | exact HTS | exact HTD, by first | exact HOS | exact HOD, hsS⟩
              case measure => simp [intOf]; omega
        · obtain rfl : t = m := by omega
          have e1 : ¬ (t : Int) < (t : Int) := by omega
          have HX := Lib.hid (HVB.out _ _ _ HO.out HW.out)
          clear HVB HF P0 WS W0
          go_wp2_with fail
          exact HX.out
end Go.Proofs.Ytgclhkiiaclkgab.Ph
