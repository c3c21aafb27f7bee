/- Blocks on a roll: the spec's PlacesOnRoll. -/
import Derived.Test.YtgclhkiiaclkgabJuLib
import Derived.Test.YtgclhkiiaclkgabN4Lib
import Derived.Deep.DeepCutAuto
namespace Go.Proofs.Ytgclhkiiaclkgab.N5
set_option linter.unusedVariables false
open Go.RowKit Is Ge Qb Jr Js Jt Ju N4
open Go.Proofs.Ytgclhkiiaclkgab.Ba (inB below_then below_box ret_bool blk2)

/-- The place of a block: how far across, how far along. -/
def plD (g p : Nat → Int) (m i q : Nat) : Int := if q = 0 then wd g p i (p i).toNat else hi (ht g p m) (p i).toNat
noncomputable def plN (roll : Int) (n : Nat) (g : Nat → Int) (m : Nat) (p : Nat → Int) : Nat := if rfC roll n g m p = 0 then n else 0
theorem rf_n {roll : Int} {n : Nat} {g : Nat → Int} {m : Nat} {p : Nat → Int} (h : rfC roll n g m p = 0) : m = n ∧ n ≤ 9 := by
  obtain ⟨h1, h2, h3⟩ := ro_ok (rf_ro h)
  exact ⟨by omega, h1.1.2⟩
theorem pln_small (roll : Int) (n : Nat) (g : Nat → Int) (m : Nat) (p : Nat → Int) : plN roll n g m p ≤ 80 := by
  unfold plN
  split
  · rename_i h
    have := (rf_n h).2
    omega
  · omega
noncomputable def PlAt (roll : Int) (n : Nat) (g : Nat → Int) (m : Nat) (p : Nat → Int) : World → Ending → World → Prop := Post2 (plN roll n g m p) (plD g p m) (rfC roll n g m p)
theorem at_base {w w' : World} {B x n : Nat} {f : Nat → Int} (h : At w x n f) (hx : x < B) (hb : Below B w w') : At w' x n f :=
  ⟨Nat.lt_of_lt_of_le h.1 hb.size, fun i hi => (hb.cell (p := ⟨x, i, none⟩) hx).trans (h.2.1 i hi), fun i => (hb.frozen (p := ⟨x, i, none⟩) hx).trans (h.2.2 i)⟩
set_option maxRecDepth 100000 in
set_option maxHeartbeats 4000000 in
theorem spec_pl (A : Option Addr) (n c : Nat) (g : Nat → Int) (roll : Int) (P : Option Addr) (m pc : Nat) (p : Nat → Int) (hn : n ≤ 1048576) (hm : m ≤ 1048576) (w : World) (hA : Nums w w.heap.size A (n * 2) g) (hR : Nums w w.heap.size P m p) :
    Calls Try.prog 43 #[.slice A n c, .int .i64 roll, .slice P m pc] w (PlAt roll n g m p w) := by
  have C := Lib.hid (fine A n c g roll P m pc p hn hm w hA hR)
  have HA := Lib.hid hA
  have HR := Lib.hid hR
  have CS := Lib.hid (fun (h : rfC roll n g m p = 0) w1 (b1 : Below w.heap.size w w1) => sums A n c g roll P m pc p (ro_use (rf_ro h)).1 (ro_use (rf_ro h)).2.1 (ro_use (rf_ro h)).2.2 w1 ((hA.below b1 (Nat.le_refl _)).more b1.size) ((hR.below b1 (Nat.le_refl _)).more b1.size))
  have V0 : Hid (¬ rfC roll n g m p = 0 → ∀ w', Below w.heap.size w w' → PlAt roll n g m p w (.returned (.tuple #[.slice none 0 0, .int .i64 (rfC roll n g m p)])) w') := Lib.hid fun h w' hb => by
    unfold PlAt plN
    rw [if_neg h]
    exact post_none hb _
  have V1 : Hid (rfC roll n g m p = 0 → ∀ w1 w' v G, R2 w' w1.heap.size v n (plD g p m) G → Below w.heap.size w w1 → Below w.heap.size w w' → PlAt roll n g m p w (.returned (.tuple #[v, .int .i64 0])) w') := Lib.hid fun h w1 w' v G h1 h2 h3 => by
    unfold PlAt plN
    rw [if_pos h, h]
    exact post_rows h1 h2 h3
  have MN := Lib.hid (fun (h : rfC roll n g m p = 0) => rf_n h)
  have FI := Lib.hid (fun (h : rfC roll n g m p = 0) => And.intro (fun t (ht : t ≤ n) => wd_in p (ro_use (rf_ro h)).1 ht) (And.intro (hi_in (ht_in p (ro_use (rf_ro h)).1 (ro_use (rf_ro h)).2.2)) (And.intro (ht_in p (ro_use (rf_ro h)).1 (ro_use (rf_ro h)).2.2) (And.intro (ro_use (rf_ro h)).2.1 (fun k (hk : k < n) => blk_in ((ro_use (rf_ro h)).1.2 k hk))))))
  have RI := Lib.hid (fun (h : rfC roll n g m p = 0) => inb (ro_use (rf_ro h)).1.1.1)
  obtain ⟨i0, hi0, hz0, hz1, hz2⟩ := info_parts info_rows
  have HI := Lib.hid (And.intro hi0 (And.intro hz0 (And.intro hz1 hz2)))
  clear hA hR hi0 hz0 hz1 hz2
  generalize PlAt roll n g m p w = Q at V0 V1 ⊢
  generalize rfC roll n g m p = cd at *
  go_enter Try.func43, Try.ntmps43
  go_wp2_with fail
  refine C.out.mono ?_
  rintro e w1 ⟨rfl, b1⟩
  by_cases h0 : cd = 0
  · subst h0
    have CS1 := Lib.hid (CS.out rfl w1 b1)
    have HV := Lib.hid (V1.out rfl)
    obtain ⟨rfl, hn9⟩ := MN.out rfl
    have HF := Lib.hid (FI.out rfl)
    have HRI := Lib.hid (RI.out rfl)
    have HB1 := Lib.hid b1
    clear CS V0 V1 C b1 MN FI RI hn hm
    go_wp2_with fail
    refine CS1.out.mono ?_
    rintro e w2 ⟨rfl, s2⟩
    have hmk := make_nine w2
    have hs2 := s2.bel.size
    have HS2 := Lib.hid s2
    clear s2 CS1
    go_wp2_with fail
    clear hmk
    have HW3 : Hid (Below w.heap.size w ((w2.alloc (.cells (Go.madeCells #[Value.int .i64 0] 9) 2)).alloc (.cells #[] 30))) := Lib.hid (below_then HB1.out (below_then HS2.out.bel (below2 _ _ _)))
    have HH3 : Hid (At ((w2.alloc (.cells (Go.madeCells #[Value.int .i64 0] 9) 2)).alloc (.cells #[] 30)) (w1.heap.size + 1) 9 (ht g p m)) := Lib.hid (HS2.out.hei.below (below2 _ _ _))
    have HA3 : Hid (At ((w2.alloc (.cells (Go.madeCells #[Value.int .i64 0] 9) 2)).alloc (.cells #[] 30)) w2.heap.size 9 (wd g p 0)) := Lib.hid ((at_nine w2).below (below_box _ _))
    have HR3 : Hid (R2 ((w2.alloc (.cells (Go.madeCells #[Value.int .i64 0] 9) 2)).alloc (.cells #[] 30)) (w2.heap.size + 1) (.slice (some ⟨w2.heap.size + 1, 0, none⟩) 0 0) 0 (plD g p m) (fun _ => 0)) := Lib.hid (by
      have := r2_zero (w2.alloc (.cells (Go.madeCells #[Value.int .i64 0] 9) 2)) (plD g p m)
      rw [World.size_alloc] at this
      exact this)
    have HL : Hid (w1.heap.size + 1 < w2.heap.size ∧ w.heap.size ≤ w2.heap.size ∧ w.heap.size ≤ w1.heap.size) := Lib.hid ⟨HS2.out.hei.1, by have := HB1.out.size; omega, HB1.out.size⟩
    have HV2 : Hid (∀ w' v G, R2 w' (w2.heap.size + 1) v m (plD g p m) G → Below w.heap.size w w' → Q (.returned (.tuple #[v, .int .i64 0])) w') := Lib.hid fun w' v G h1 h2 => HV.out (w2.alloc (.cells (Go.madeCells #[Value.int .i64 0] 9) 2)) w' v G (by rw [World.size_alloc]; exact h1) (below_then HB1.out (below_then HS2.out.bel (below_box _ _))) h2
    generalize hw3 : (w2.alloc (.cells (Go.madeCells #[Value.int .i64 0] 9) 2)).alloc (.cells #[] 30) = w3 at *
    clear hw3 HS2 hs2 HV HB1
    obtain ⟨hL1, hL2, hL3⟩ := HL.out
    clear HL
    have hwh : w.heap.size ≤ w1.heap.size + 1 := by omega
    generalize w2.heap.size = ga at *
    generalize w1.heap.size + 1 = hh at *
    have P0 : Hid (∀ i, plD g p m i 0 = wd g p i (p i).toNat ∧ plD g p m i 1 = hi (ht g p m) (p i).toNat) := Lib.hid fun i => ⟨rfl, rfl⟩
    have WS : Hid (∀ t q : Nat, p t = (q : Int) → wd g p (t + 1) q = wd g p t q + g (t * 2) ∧ ∀ j, j ≠ q → wd g p (t + 1) j = wd g p t j) := Lib.hid fun t q h => ⟨if_pos h, fun j hj => if_neg (by omega)⟩
    generalize plD g p m = d at *
    generalize wd g p = wf at *
    generalize ht g p m = hf at *
    have H0 : Hid (hi hf 0 = 0) := Lib.hid rfl
    have HS : Hid (∀ k, hi hf (k + 1) = hi hf k + hf k) := Lib.hid fun k => rfl
    generalize hi hf = F at *
    go_loopw [12, 13, 14, 15] (fun o u _ _ wr => ∃ (t : Nat) (v : Value) (G : Nat → Nat), t ≤ m ∧ v = o ∧ u = .int .i64 (t : Int) ∧ Hid (Below w.heap.size w wr) ∧ Hid (At wr hh 9 hf) ∧ Hid (At wr ga 9 (wf t)) ∧ Hid (R2 wr (ga + 1) v t d G)) (fun _ u _ _ _ => m - (intOf u).toNat)
    case atStart => exact ⟨0, _, _, Nat.zero_le _, rfl, rfl, HW3, HH3, HA3, HR3⟩
    case round =>
      clear HW3 HH3 HA3 HR3
      obtain ⟨t, v, G, ht, rfl, rfl, HW, HH, HT, HO⟩ := hrel
      have e0 : (0 : Int) ≤ (t : Int) := Int.natCast_nonneg _
      by_cases htl : t < m
      · have e1 : (t : Int) < (m : Int) := by omega
        have ht1 : t + 1 ≤ m := by omega
        obtain ⟨f1, f2, f3, f4, f5⟩ := HF.out
        have g1 := f4 t htl
        obtain ⟨q, hq⟩ : ∃ q : Nat, p t = (q : Int) := ⟨(p t).toNat, by omega⟩
        have hq9 : q < 9 := by omega
        obtain ⟨bp, op, eP, hbp, hcp⟩ := HR.out (by omega)
        obtain ⟨bl, ol, eA, hbl, hcl⟩ := HA.out (by omega)
        subst eP
        subst eA
        have XP : ∀ W, Below w.heap.size w W → W.cell? ⟨bp, op + t, none⟩ = some (.int .i64 (q : Int)) := fun W h => by rw [← hq]; exact (h.cell (p := ⟨bp, op + t, none⟩) hbp).trans (hcp t htl)
        have XL : ∀ W, Below w.heap.size w W → W.cell? ⟨bl, ol + t * 2, none⟩ = some (.int .i64 (g (t * 2))) := fun W h => (h.cell (p := ⟨bl, ol + t * 2, none⟩) hbl).trans (Blk.cells_at hcl htl).1
        have x0 := XP _ HW.out
        have HXP := Lib.hid XP
        have HXL := Lib.hid XL
        have u1 := f1 t (by omega) q
        have u2 := (f5 t htl).1
        have HFF := Lib.hid f2
        have HF3 := Lib.hid f3
        obtain ⟨p0, p1⟩ := P0.out t
        rw [hq, Int.toNat_natCast] at p0 p1
        have HP0 := Lib.hid p0
        have HP1 := Lib.hid p1
        obtain ⟨s1, s2⟩ := WS.out t q hq
        have HS1 := Lib.hid s1
        have HS2 := Lib.hid s2
        clear f1 f2 f3 f4 f5 g1 hcp hcl XP XL p0 p1 s1 s2 WS P0 HF HR HA hq
        have e2 : (0 : Int) ≤ (q : Int) := Int.natCast_nonneg _
        have e3 : (q : Int) < 9 := by omega
        go_wp2_with fail
        go_loopw [14, 15] (fun y u wv => ∃ k : Nat, k ≤ q ∧ y = .int .i64 (F k) ∧ u = .int .i64 (k : Int) ∧ Hid (wv = wr)) (fun _ u _ => q - (intOf u).toNat)
        case atStart => exact ⟨0, Nat.zero_le _, by rw [H0.out], rfl, Lib.hid rfl⟩
        case round =>
          obtain ⟨k, hk, rfl, rfl, HVW⟩ := hrel
          have hV := HVW.out
          subst hV
          have k0 : (0 : Int) ≤ (k : Int) := Int.natCast_nonneg _
          by_cases hkq : k < q
          · have k1 : (k : Int) < (q : Int) := by omega
            have k2 : (k : Int) < 9 := by omega
            have hk1 : k + 1 ≤ q := by omega
            have z0 := HH.out.2.1 k (by omega)
            have v1 := HFF.out k
            have v2 := HF3.out k
            have HSk := Lib.hid (HS.out k)
            clear HFF HF3 HS H0 HXP HXL HP0 HP1 HS1 HS2
            generalize hF1 : F (k + 1) = f1 at HSk
            generalize F k = f0 at *
            generalize hf k = hv at *
            go_wp2_with fail
            go_roundw
            case rel => exact ⟨k + 1, hk1, by rw [hF1, HSk.out], by go_num, by first | exact Lib.hid rfl | exact Lib.hid trivial⟩
            case measure => simp [intOf]; omega
          · obtain rfl : k = q := by omega
            have k1 : ¬ (k : Int) < (k : Int) := by omega
            have y0 := HT.out.2.1 k (by omega)
            have B2 : Hid (Below wr.heap.size wr ((wr.alloc (.cells #[.int .i64 (wf t k), .int .i64 (F k)] 2)).alloc (.cells #[.slice (some ⟨wr.heap.size, 0, none⟩) 2 2] 30))) := Lib.hid (below2 _ _ _)
            have K1 := Lib.hid (Ge.blk_keep (below_box (wr.alloc (.cells #[.int .i64 (wf t k), .int .i64 (F k)] 2)) (.cells #[.slice (some ⟨wr.heap.size, 0, none⟩) 2 2] 30)) (heap_alloc_new wr (.cells #[.int .i64 (wf t k), .int .i64 (F k)] 2)))
            have K2 : Hid (((wr.alloc (.cells #[.int .i64 (wf t k), .int .i64 (F k)] 2)).alloc (.cells #[.slice (some ⟨wr.heap.size, 0, none⟩) 2 2] 30)).heap[wr.heap.size + 1]? = some (.cells #[.slice (some ⟨wr.heap.size, 0, none⟩) 2 2] 30 (0, 0))) := Lib.hid (by
              have := heap_alloc_new (wr.alloc (.cells #[.int .i64 (wf t k), .int .i64 (F k)] 2)) (.cells #[.slice (some ⟨wr.heap.size, 0, none⟩) 2 2] 30)
              rw [World.size_alloc] at this
              exact this)
            have hga := HT.out.1
            clear HFF HF3 HS H0 HV2
            generalize hFk : F k = fk at *
            generalize hwk : wf t k = wk at *
            go_wp2_with (at_builtin; refine wpList_append_own _ rfl _ _ 48 rfl (ga + 1) 30 i0 _ 1 24 Try.underlying48 HI.out.1 HI.out.2.1 HI.out.2.2.1 HI.out.2.2.2 rfl (by decide) _ _ _ rfl ((HO.out.below B2.out).out) ⟨wr.heap.size + 1, 0, none⟩ 1 1 [.slice (some ⟨wr.heap.size, 0, none⟩) 2 2] rfl rfl ?c1 ?c2 ?c3 ?c4 ?c5 ?_)
            try case c1 =>
              intro q' u hu
              rw [Addr.add_lit, Nat.zero_add]
              exact (cell_of_row _ _ q' _ _ _ K2.out).trans (by simpa using hu)
            case c2 => simp [Value.oneCell']
            case c3 => unfold maxLen; omega
            case c4 => omega
            case c5 => first | omega | (simp <;> omega)
            intro v' w6 hown2 hgrow _
            have HO6 := Lib.hid (HO.out.step (gn := wr.heap.size) B2.out (Nat.le_refl _) (by rw [HP0.out, HP1.out]; exact K1.out) (by omega) hown2 hgrow)
            have b6 := (B2.out.mono (show ga + 1 ≤ wr.heap.size by omega)).grown hgrow (by have := B2.out.size; omega) fun g hg => ((HO.out.below B2.out).out.lt g hg).1
            have HW6 := Lib.hid (HW.out.trans (b6.mono (show w.heap.size ≤ ga + 1 by omega)))
            have HH6 := Lib.hid (at_base HH.out (show hh < ga + 1 by omega) b6)
            have HT6 := Lib.hid (at_base HT.out (show ga < ga + 1 by omega) b6)
            have a0 := HXP.out _ HW6.out
            have a1 := HXL.out _ HW6.out
            have a2 := HT6.out.2.1 k (by omega)
            have a3 := HT6.out.2.2 k
            rw [hwk] at a2
            have HWS := Lib.hid (HW6.out.setCell (p := ⟨ga, k, none⟩) hL2 (.int .i64 (wk + g (t * 2))))
            have HHS := Lib.hid (HH6.out.set (b := ga) (o := k) (u := .int .i64 (wk + g (t * 2))) (by omega))
            have HTS := Lib.hid (Jt.at_set (z := k) HT6.out HS2.out)
            rw [HS1.out] at HTS
            have HOS := Lib.hid (HO6.out.set (b := ga) (by omega) k (.int .i64 (wk + g (t * 2))))
            clear hown2 hgrow b6 K1 K2 B2 HO HW HH HT HXP HXL HP0 HP1 HS1 HS2 x0 y0 HW6 HH6 HT6 HO6
            generalize g (t * 2) = gt at *
            have t1 : IntKind.i64.wrap (wk + gt) = wk + gt := IntWalk.i64_in _ (by have := HRI.out; omega)
            go_upto_region 16 with fail
            go_region
            all_goals
              clear a0 a1 a2 a3 t1
              generalize World.setCell w6 _ _ = ws at *
              have HWD : Hid (Below w.heap.size w ws.drew) := Lib.hid HWS.out.drew
              have HHD : Hid (At ws.drew hh 9 hf) := Lib.hid ⟨HHS.out.1, HHS.out.2.1, HHS.out.2.2⟩
              have HTD : Hid (At ws.drew ga 9 (wf (t + 1))) := Lib.hid ⟨HTS.out.1, HTS.out.2.1, HTS.out.2.2⟩
              have HOD := Lib.hid HOS.out.drew
              go_wp2_with fail
              go_roundw
              case rel => exact ⟨t + 1, _, _, ht1, rfl, by go_num, by first | exact HWS | exact HWD, by first | exact HHS | exact HHD, by first | exact HTS | exact HTD, by first | exact HOS | exact HOD⟩
              case measure => simp [intOf]; omega
      · obtain rfl : t = m := by omega
        have e1 : ¬ (t : Int) < (t : Int) := by omega
        have HX := Lib.hid (HV2.out _ _ _ HO.out HW.out)
        clear HV2 HF P0 WS H0 HS
        go_wp2_with fail
        exact HX.out
  · have hne : (cd != 0) = true := by simpa using h0
    have HF := Lib.hid (V0.out h0 w1 b1)
    clear CS V0 V1 C b1 MN FI RI
    go_wp2_with fail
    exact HF.out
end Go.Proofs.Ytgclhkiiaclkgab.N5
