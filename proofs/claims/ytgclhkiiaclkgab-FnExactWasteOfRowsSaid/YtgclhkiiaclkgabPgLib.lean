/- Blocks on a roll: the program's HeightBound, WasteOfRows. -/
import Derived.Test.YtgclhkiiaclkgabPfLib
namespace Go.Proofs.Ytgclhkiiaclkgab.Pg
set_option linter.unusedVariables false
open Go.RowKit Is Ge Qb Jr Js Jt Ju Jw Jx Pa P5 Pb Pc Pd Pe Pf
open Go.Proofs.Ytgclhkiiaclkgab.Ba (inB below_then below_box)

theorem bound_max (a b : Int) (g : Nat → Int) : ∀ n, max (max a (taI g n)) b = max (taI g n) (max a b) := fun n => by omega
/-- The bound, made greater by each Height. -/
def gtI (b : Int) (g : Nat → Int) : Nat → Int
  | 0 => b
  | k + 1 => max (gtI b g k) (g (k * 2 + 1))
theorem gt_is {b : Int} (h : 0 ≤ b) (g : Nat → Int) : ∀ k, gtI b g k = max (taI g k) b
  | 0 => by unfold gtI taI; omega
  | k + 1 => by
    have e : taI g (k + 1) = max (taI g k) (g (k * 2 + 1)) := rfl
    unfold gtI
    rw [gt_is h g k, e]
    omega
set_option maxRecDepth 100000 in
set_option maxHeartbeats 2000000 in
theorem impl_hb (A : Option Addr) (n c : Nat) (g : Nat → Int) (roll : Int) (hn : n ≤ 1048576) (w : World) (hA : Nums w w.heap.size A (n * 2) g) :
    Calls Try.prog 36 #[.slice A n c, .int .i64 roll] w (IAt (hbV roll n g) (blC roll n g) w) := by
  have HA := Lib.hid hA
  have CN := Lib.hid (inest A n c g roll hn w hA)
  have CA := Lib.hid (fun (h : tv (BlP roll n g) = true) w hw => iareas A n c g roll (tv_iff.1 h) w hw)
  have V0 : Hid (tv (BlP roll n g) = false → hbV roll n g = 0 ∧ blC roll n g = 1) := Lib.hid fun h => ⟨if_neg (by rw [h]; simp), if_neg (by rw [h]; simp)⟩
  have V1 : Hid (tv (BlP roll n g) = true → hbV roll n g = max (taI g n) ((arI g n + roll - 1) / roll) ∧ blC roll n g = 0) := Lib.hid fun h => ⟨if_pos h, if_pos h⟩
  have AI := Lib.hid (fun (h : tv (BlP roll n g) = true) => ar_in (tv_iff.1 h) (Nat.le_refl n))
  have RI := Lib.hid (fun (h : tv (BlP roll n g) = true) => inb (tv_iff.1 h).1.1)
  have NI := Lib.hid (fun (h : tv (BlP roll n g) = true) => (tv_iff.1 h).1.2)
  have BI := Lib.hid (fun (h : tv (BlP roll n g) = true) k (hk : k < n) => blk_in ((tv_iff.1 h).2 k hk))
  clear hA
  unfold IAt
  generalize hbV roll n g = rv at V0 V1 ⊢
  generalize blC roll n g = rc at CN V0 V1 ⊢
  generalize tv (BlP roll n g) = ok at CN CA V0 V1 AI RI NI BI
  cases ok
  · obtain ⟨rfl, rfl⟩ := V0.out rfl
    clear V0 V1 CA AI RI NI BI
    rw [if_neg (show ¬ false = true by simp)] at CN
    go_enter Try.func36, Try.ntmps36
    go_wp2_with fail
    refine CN.out.mono ?_
    rintro e w1 ⟨rfl, b1⟩
    have HQ := Lib.hid (below_then b1 (below_box w1 (neO none 0 0 0)))
    clear b1 CN HA
    go_wp2_with fail
    exact bodyPost_ret (v := .tuple #[.int .i64 0, .int .i64 1]) (by simp [results, Try.results36, go_sem]) rfl ⟨rfl, HQ.out⟩
  obtain ⟨h1, rfl⟩ := V1.out rfl
  have ai := AI.out rfl
  have ri := RI.out rfl
  have ni := NI.out rfl
  have BI1 := Lib.hid (BI.out rfl)
  have CA1 := Lib.hid (CA.out rfl)
  rw [if_pos rfl] at CN
  clear V0 V1 CA AI RI NI BI
  have q0 : 0 ≤ (arI g n + roll - 1) / roll := Int.ediv_nonneg (by omega) (by omega)
  have q1 : (arI g n + roll - 1) / roll ≤ arI g n + roll - 1 := Int.ediv_le_self _ (by omega)
  have HV : Hid (rv = gtI ((arI g n + roll - 1) / roll) g n) := Lib.hid (by rw [h1, gt_is q0])
  have q3 : (roll == 0) = false := by simp; omega
  have q4 : ¬ (roll = 0) := by omega
  have q5 : (arI g n + roll - 1).tdiv roll = (arI g n + roll - 1) / roll := Int.tdiv_eq_ediv_of_nonneg (by omega)
  have G0 : Hid (gtI ((arI g n + roll - 1) / roll) g 0 = (arI g n + roll - 1) / roll) := Lib.hid rfl
  have GS : Hid (∀ k, gtI ((arI g n + roll - 1) / roll) g (k + 1) = max (gtI ((arI g n + roll - 1) / roll) g k) (g (k * 2 + 1))) := Lib.hid fun k => rfl
  have t1 : IntKind.i64.wrap (arI g n + roll) = arI g n + roll := IntWalk.i64_in _ (by omega)
  have t2 : IntKind.i64.wrap (arI g n + roll - 1) = arI g n + roll - 1 := IntWalk.i64_in _ (by omega)
  generalize gtI ((arI g n + roll - 1) / roll) g = G at HV G0 GS
  generalize hb0 : (arI g n + roll - 1) / roll = b0 at *
  generalize arI g n = ar at *
  clear h1
  go_enter Try.func36, Try.ntmps36
  go_wp2_with fail
  refine CN.out.mono ?_
  rintro e w1 ⟨rfl, b1⟩
  have HB := Lib.hid (below_then b1 (below_box w1 (neO A n c roll)))
  have KN := Lib.hid (heap_alloc_new w1 (neO A n c roll))
  clear b1 CN
  go_upto_region 2 with fail
  generalize hw9 : World.alloc _ _ = w2 at HB KN ⊢
  clear hw9
  generalize w1.heap.size = gn at *
  obtain ⟨y0, y1⟩ := blk2 KN.out
  go_wp2_with fail
  refine (CA1.out _ ((HA.out.below HB.out (Nat.le_refl _)).more HB.out.size)).mono ?_
  rintro e w3 ⟨rfl, b3⟩
  have HB3 := Lib.hid (below_then HB.out b3)
  clear b3 HB KN CA1 y0 y1
  have n0 : (0 : Int) ≤ (n : Int) := Int.natCast_nonneg _
  go_wp2_with fail
  go_loopw [8, 10, 29] (fun v _ i wr => ∃ k : Nat, k ≤ n ∧ v = .int .i64 (G k) ∧ i = .int .i64 (k : Int) ∧ Hid (Below w.heap.size w wr)) (fun _ _ i _ => n - (intOf i).toNat)
  case atStart => exact ⟨0, Nat.zero_le _, by rw [G0.out], rfl, HB3⟩
  case round =>
    obtain ⟨k, hk, rfl, rfl, HX⟩ := hrel
    have e0 : (0 : Int) ≤ (k : Int) := Int.natCast_nonneg _
    by_cases hlt : k < n
    · have e1 : (k : Int) < (n : Int) := by omega
      obtain ⟨b, off, rfl, hb, hc⟩ := (HA.out.below HX.out (Nat.le_refl _)) (by omega)
      obtain ⟨x0, x1⟩ := Blk.cells_at hc hlt
      have bk := BI1.out k hlt
      have HS := Lib.hid (GS.out k)
      have hk1 : k + 1 ≤ n := by omega
      generalize hS1 : G (k + 1) = s1 at HS
      generalize g (k * 2) = u0 at x0 bk
      generalize g (k * 2 + 1) = u1 at x1 HS bk
      generalize G k = s0 at *
      have HX2 := Lib.hid (below_then HX.out (below_box wr (blO u0 u1)))
      have KB := Lib.hid (heap_alloc_new wr (blO u0 u1))
      clear hc BI1 GS HX
      go_upto_region 8 with fail
      generalize hw9 : World.alloc _ _ = w4 at HX2 KB ⊢
      clear hw9 x0 x1
      generalize wr.heap.size = gb at *
      obtain ⟨y0, y1⟩ := blk2 KB.out
      by_cases hm : s0 < u1
      · have HM : Hid (s1 = u1) := Lib.hid (by rw [HS.out]; omega)
        clear HS
        go_wp2_with fail
        go_roundw
        case rel => exact ⟨k + 1, hk1, by rw [hS1, HM.out], by go_num, HX2⟩
        case measure => simp [intOf]; omega
      · have HM : Hid (s1 = s0) := Lib.hid (by rw [HS.out]; omega)
        clear HS
        go_wp2_with fail
        go_roundw
        case rel => exact ⟨k + 1, hk1, by rw [hS1, HM.out], by go_num, HX2⟩
        case measure => simp [intOf]; omega
    · obtain rfl : k = n := by omega
      clear BI1 GS G0
      generalize G k = r at *
      go_wp2_with fail
      exact bodyPost_ret (v := .tuple #[.int .i64 r, .int .i64 0]) (by simp [results, Try.results36, go_sem]) rfl ⟨by rw [HV.out], HX.out⟩
set_option maxRecDepth 100000 in
set_option maxHeartbeats 2000000 in
theorem impl_wa (A : Option Addr) (n c : Nat) (g : Nat → Int) (roll : Int) (P : Option Addr) (m pc : Nat) (p : Nat → Int) (hn : n ≤ 1048576) (hm : m ≤ 1048576) (w : World) (hA : Nums w w.heap.size A (n * 2) g) (hR : Nums w w.heap.size P m p) :
    Calls Try.prog 38 #[.slice A n c, .int .i64 roll, .slice P m pc] w (Jv.WaAt roll n g m p w) := by
  have HA := Lib.hid hA
  have HR := Lib.hid hR
  have BX := Lib.hid (Bx.of w (Jv.frO 0 0))
  have CN := Lib.hid (fun w h h2 => isound A n c g roll P m pc p hn hm w h h2)
  have CF : Hid (rfC roll n g m p = 0 → ∀ w, Nums w w.heap.size A (n * 2) g → Calls Try.prog 65 #[neV A n c roll, flV (fun k => rs p k m)] w fun e w' => e = .returned (.int .i64 (hi (ht g p m) 9)) ∧ Below w.heap.size w w') := Lib.hid fun h w hw => by
    obtain ⟨h1, h2, h3⟩ := ro_ok (rf_ro h)
    rw [← length_is h3]
    exact ilength A n c g roll _ h1 (fun k => rs_all p m (by have := h1.1.2; omega) k) w hw
  have CA := Lib.hid (fun (h : rfC roll n g m p = 0) w hw => iareas A n c g roll (Jv.wa_use h).1 w hw)
  have HI : Hid (rfC roll n g m p = 0 → 0 < n → 1 ≤ hi (ht g p m) 9 ∧ hi (ht g p m) 9 ≤ 45000) := Lib.hid fun h h0 => by
    obtain ⟨h1, h2, h3⟩ := Jv.wa_use h
    subst h3
    exact ⟨Jv.hi_pos h1 h2 h0, (hi_in (ht_in p h1 (Nat.le_refl _)) 9).2⟩
  have AI := Lib.hid (fun (h : rfC roll n g m p = 0) => ar_in (Jv.wa_use h).1 (Nat.le_refl n))
  have RI := Lib.hid (fun (h : rfC roll n g m p = 0) => inb (Jv.wa_use h).1.1.1)
  have NI := Lib.hid (fun (h : rfC roll n g m p = 0) => (Jv.wa_use h).1.1.2)
  have V0 : Hid (¬ rfC roll n g m p = 0 → ∀ W, Below w.heap.size w W → Jv.WaAt roll n g m p w (.returned (.tuple #[.agg #[.int .i64 0, .int .i64 0], .int .i64 (rfC roll n g m p)])) W) := Lib.hid fun h W hb => by
    have e : Jv.waC roll n g m p = rfC roll n g m p := if_neg h
    refine ⟨?_, hb⟩
    unfold Jv.waA Jv.waB
    rw [e, if_neg h, if_neg h]
  have V1 : Hid (rfC roll n g m p = 0 → n = 0 → ∀ W, Below w.heap.size w W → Jv.WaAt roll n g m p w (.returned (.tuple #[.agg #[.int .i64 0, .int .i64 0], .int .i64 3])) W) := Lib.hid fun h h0 W hb => by
    have e : Jv.waC roll n g m p = 3 := by unfold Jv.waC; rw [if_pos h, if_pos h0]
    refine ⟨?_, hb⟩
    unfold Jv.waA Jv.waB
    rw [e]
    rfl
  have V2 : Hid (rfC roll n g m p = 0 → ¬ n = 0 → ∀ W, Below w.heap.size w W → Jv.WaAt roll n g m p w (.returned (.tuple #[.agg #[.int .i64 (Fg.nm (roll * hi (ht g p m) 9 - arI g n) (roll * hi (ht g p m) 9)), .int .i64 (Fg.dn (roll * hi (ht g p m) 9 - arI g n) (roll * hi (ht g p m) 9))], .int .i64 0])) W) := Lib.hid fun h h0 W hb => by
    have e : Jv.waC roll n g m p = 0 := by unfold Jv.waC; rw [if_pos h, if_neg h0]
    refine ⟨?_, hb⟩
    unfold Jv.waA Jv.waB
    rw [if_pos e, if_pos e, e]
    rfl
  clear hA hR
  generalize Jv.WaAt roll n g m p w = Q at V0 V1 V2 ⊢
  generalize rfC roll n g m p = C at CN CF CA HI AI RI NI V0 V1 V2
  generalize hi (ht g p m) 9 = hh at CF HI V2
  generalize arI g n = sk at CA AI V2
  obtain ⟨F, hF⟩ : ∃ F : Nat → Nat, (fun k => rs p k m) = F := ⟨_, rfl⟩
  rw [hF] at CN CF
  clear hF
  by_cases h0 : C = 0
  rotate_left
  · have hne : (C != 0) = true := by simpa using h0
    have V := Lib.hid (V0.out h0)
    clear V0 V1 V2 CF CA HI AI RI NI
    rw [if_neg h0] at CN
    go_enter Try.func38, Try.ntmps38
    go_upto_region 1 with fail
    generalize hw9 : World.alloc _ _ = w0 at BX ⊢
    clear hw9
    go_wp2_with fail
    refine (CN.out _ ((HA.out.below BX.out.bel (Nat.le_refl _)).more BX.out.bel.size) ((HR.out.below BX.out.bel (Nat.le_refl _)).more BX.out.bel.size)).mono ?_
    rintro e w1 ⟨rfl, b1⟩
    have BX1 := Lib.hid ((BX.out.below b1).below (below_box w1 (fnO none 0 0 0 (fun _ => 0))))
    clear b1 BX CN HA HR
    go_upto_region 2 with fail
    generalize hw9 : World.alloc _ _ = w2 at BX1 ⊢
    clear hw9
    have hfr := blk_free BX1.out.box
    obtain ⟨z0, z1⟩ := blk2 BX1.out.box
    have HF := Lib.hid (V.out _ ((BX1.out.bel.setCell (p := ⟨w.heap.size, 0, none⟩) (Nat.le_refl _) (.int .i64 0)).setCell (p := ⟨w.heap.size, 1, none⟩) (Nat.le_refl _) (.int .i64 0)))
    go_wp2_with fail
    exact bodyPost_ret (v := .tuple #[.agg #[.int .i64 0, .int .i64 0], .int .i64 C]) (by simp [results, Try.results38, go_sem, z0, z1]) rfl HF.out
  subst h0
  have CF1 := Lib.hid (CF.out rfl)
  have CA1 := Lib.hid (CA.out rfl)
  rw [if_pos rfl] at CN
  have ai := AI.out rfl
  have ri := RI.out rfl
  have ni := NI.out rfl
  by_cases hn0 : n = 0
  · subst hn0
    have V := Lib.hid (V1.out rfl rfl)
    clear V0 V1 V2 CF CA HI AI RI NI CF1 CA1
    go_enter Try.func38, Try.ntmps38
    go_upto_region 1 with fail
    generalize hw9 : World.alloc _ _ = w0 at BX ⊢
    clear hw9
    go_wp2_with fail
    refine (CN.out _ ((HA.out.below BX.out.bel (Nat.le_refl _)).more BX.out.bel.size) ((HR.out.below BX.out.bel (Nat.le_refl _)).more BX.out.bel.size)).mono ?_
    rintro e w1 ⟨rfl, b1⟩
    have BX1 := Lib.hid ((BX.out.below b1).below (below_box w1 (fnO A 0 c roll F)))
    clear b1 BX CN HA HR
    go_upto_region 2 with fail
    generalize hw9 : World.alloc _ _ = w2 at BX1 ⊢
    clear hw9
    have hfr := blk_free BX1.out.box
    obtain ⟨z0, z1⟩ := blk2 BX1.out.box
    have HF := Lib.hid (V.out _ ((BX1.out.bel.setCell (p := ⟨w.heap.size, 0, none⟩) (Nat.le_refl _) (.int .i64 0)).setCell (p := ⟨w.heap.size, 1, none⟩) (Nat.le_refl _) (.int .i64 0)))
    go_wp2_with fail
    exact bodyPost_ret (v := .tuple #[.agg #[.int .i64 0, .int .i64 0], .int .i64 3]) (by simp [results, Try.results38, go_sem, z0, z1]) rfl HF.out
  have V := Lib.hid (V2.out rfl hn0)
  have hhh := HI.out rfl (by omega)
  have hne0 : ¬ (n : Int) = 0 := by omega
  have hne1 : ((n : Int) == 0) = false := by simp; omega
  clear V0 V1 V2 CF CA HI AI RI NI
  have y5 := prod_in (X := 5000) (Y := 45000) (show 0 ≤ roll ∧ roll ≤ 5000 by omega) (show 0 ≤ hh ∧ hh ≤ 45000 by omega)
  have y6 : 1 ≤ roll * hh := by
    have := Int.mul_le_mul ri.1 hhh.1 (by omega) (by omega : (0 : Int) ≤ roll)
    omega
  have MK := Lib.hid (fun w => Fg.low_gen (roll * hh - sk) (roll * hh) (by omega) (by omega) (by omega) (by omega) w)
  generalize Fg.nm (roll * hh - sk) (roll * hh) = na at *
  generalize Fg.dn (roll * hh - sk) (roll * hh) = nb at *
  have t4 : IntKind.i64.wrap (roll * hh) = roll * hh := IntWalk.i64_in _ (by omega)
  have t5 : IntKind.i64.wrap (roll * hh - sk) = roll * hh - sk := IntWalk.i64_in _ (by omega)
  go_enter Try.func38, Try.ntmps38
  go_upto_region 1 with fail
  generalize hw9 : World.alloc _ _ = w0 at BX ⊢
  clear hw9
  go_wp2_with fail
  refine (CN.out _ ((HA.out.below BX.out.bel (Nat.le_refl _)).more BX.out.bel.size) ((HR.out.below BX.out.bel (Nat.le_refl _)).more BX.out.bel.size)).mono ?_
  rintro e w1 ⟨rfl, b1⟩
  have BX1 := Lib.hid ((BX.out.below b1).below (below_box w1 (fnO A n c roll F)))
  have KN := Lib.hid (heap_alloc_new w1 (fnO A n c roll F))
  clear b1 BX CN HR
  go_upto_region 2 with fail
  generalize hw9 : World.alloc _ _ = w2 at BX1 KN ⊢
  clear hw9
  generalize w1.heap.size = gn at *
  obtain ⟨y0, y1, y2, y3, y4, y5', y6', y7, y8, y9, y10⟩ := blk11 KN.out
  go_wp2_with fail
  refine (CF1.out _ ((HA.out.below BX1.out.bel (Nat.le_refl _)).more BX1.out.bel.size)).mono ?_
  rintro e w3 ⟨rfl, b3⟩
  have BX3 := Lib.hid (BX1.out.below b3)
  have KN3 := Lib.hid (Ge.blk_keep b3 KN.out)
  clear b3 BX1 KN CF1 y0 y1 y2 y3 y4 y5' y6' y7 y8 y9 y10
  obtain ⟨y0, y1, _⟩ := blk11 KN3.out
  go_wp2_with fail
  refine (CA1.out _ ((HA.out.below BX3.out.bel (Nat.le_refl _)).more BX3.out.bel.size)).mono ?_
  rintro e w4 ⟨rfl, b4⟩
  have BX4 := Lib.hid (BX3.out.below b4)
  clear b4 BX3 KN3 CA1 y0 y1 HA
  go_wp2_with fail
  refine (MK.out _).mono ?_
  rintro e w5 ⟨rfl, b5⟩
  have BX5 := Lib.hid (BX4.out.below b5)
  clear b5 BX4 MK
  have hfr := blk_free BX5.out.box
  obtain ⟨z0, z1⟩ := blk2 BX5.out.box
  have HF := Lib.hid (V.out _ ((BX5.out.bel.setCell (p := ⟨w.heap.size, 0, none⟩) (Nat.le_refl _) (.int .i64 na)).setCell (p := ⟨w.heap.size, 1, none⟩) (Nat.le_refl _) (.int .i64 nb)))
  go_wp2_with fail
  exact bodyPost_ret (v := .tuple #[.agg #[.int .i64 na, .int .i64 nb], .int .i64 0]) (by simp [results, Try.results38, go_sem, z0, z1]) rfl HF.out
end Go.Proofs.Ytgclhkiiaclkgab.Pg
