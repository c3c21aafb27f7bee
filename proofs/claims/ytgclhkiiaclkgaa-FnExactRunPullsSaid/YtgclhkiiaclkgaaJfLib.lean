/- Leathers: the spec's RunPulls. -/
import Derived.Test.YtgclhkiiaclkgaaJeLib
namespace Go.Proofs.Ytgclhkiiaclkgaa.Jf
set_option linter.unusedVariables false
open Go.RowKit Qb Ja Jb Is Ge
open Go.Proofs.Ytgclhkiiaclkgaa.Ba (inB below_then below_box ret_bool ret_int)

/-- The length after the first k pulls. -/
def ln (a c s d n : Int) (f : Nat → Int) : Nat → Int
  | 0 => n
  | k + 1 => af a c s d (ln a c s d n f k) (f k)
theorem fl_nonneg {x y : Int} (hx : 0 ≤ x) (hy : 0 < y) : 0 ≤ Fg.fl x y := by
  unfold Fg.fl
  have h1 : 0 ≤ x.tmod y := by rw [Int.tmod_eq_emod_of_nonneg hx]; exact Int.emod_nonneg _ (by omega)
  have h2 : 0 ≤ x.tdiv y := by rw [Int.tdiv_eq_ediv_of_nonneg hx]; exact Int.ediv_nonneg hx (by omega)
  rw [if_neg (by omega)]
  exact h2
theorem af_nonneg {a c s d n f : Int} (ha : 0 ≤ a ∧ a ≤ 100) (hc : 0 ≤ c ∧ c ≤ 100) (hd : 0 ≤ d ∧ d ≤ 4) (hf : 0 ≤ f ∧ f ≤ 1000) (hs : 0 ≤ s ∧ s ≤ 1000) (hn : 0 ≤ n) : 0 ≤ af a c s d n f := by
  have hx := st_in ha hc hd hf
  have p1 := prod_le hx hs
  unfold af
  have p2 : 0 ≤ n * (40000000 + st a c d f * s) := Int.mul_nonneg hn (by omega)
  exact fl_nonneg (by omega) (by omega)
/-- What is asked of the pulls. -/
def FrP (k : Nat) (f : Nat → Int) : Prop := ∀ j, j < k → frcB (f j) = true
def TiP (a c m d : Int) (k : Nat) (f : Nat → Int) : Prop := ∀ j, j < k → st a c d (f j) ≤ 40 * m
def LnP (a c s d n : Int) (k : Nat) (f : Nat → Int) : Prop := ∀ j, j < k → ln a c s d n f (j + 1) ≤ 10000
open Classical in
noncomputable def rpC (a c s m d n : Int) (k : Nat) (f : Nat → Int) : Int := if leB a c s m = false then 1 else if ¬ FrP k f then 2 else if (dirB d && (lenB n && decide (k ≤ 20))) = false then 2 else if ¬ TiP a c m d k f then 10 else if ¬ LnP a c s d n k f then 5 else 0
noncomputable def rpN (a c s m d n : Int) (k : Nat) (f : Nat → Int) : Nat := if rpC a c s m d n k f = 0 then k else 0
def RpAt (a c s m d n : Int) (k : Nat) (f : Nat → Int) (w : World) (e : Ending) (w' : World) : Prop := Ow.PairAt (rpN a c s m d n k f) (fun j => ln a c s d n f (j + 1)) (rpC a c s m d n k f) w e w'
theorem rp_no {a c s m d n : Int} {k : Nat} {f : Nat → Int} {C : Int} (h : rpC a c s m d n k f = C) (hC : C ≠ 0) {w w' : World} (hb : Below w.heap.size w w') : RpAt a c s m d n k f w (.returned (.tuple #[.slice none 0 0, .int .i64 C])) w' := by
  unfold RpAt rpN
  rw [h, if_neg hC]
  exact Ow.pair_no hb _
theorem rp_ok {a c s m d n : Int} {k : Nat} {f : Nat → Int} (h : rpC a c s m d n k f = 0) {w w0 w' : World} {v : Value} (hv : w'.ownsRow w0.heap.size 2 1 v k (upto (fun j => ln a c s d n f (j + 1)) k)) (h0 : Below w.heap.size w w0) (hb : Below w0.heap.size w0 w') : RpAt a c s m d n k f w (.returned (.tuple #[v, .int .i64 0])) w' := by
  unfold RpAt rpN
  rw [if_pos h, h]
  exact Ow.pair_of_row hv h0 hb
set_option maxRecDepth 100000 in
set_option maxHeartbeats 2000000 in
theorem spec_rp (a c s m d n : Int) (A : Option Addr) (k fc : Nat) (f : Nat → Int) (hk : k ≤ 1048576) (w : World) (h : Nums w w.heap.size A k f) : Calls Try.prog 25 #[leV a c s m, .int .i64 d, .int .i64 n, .slice A k fc] w (RpAt a c s m d n k f w) := by
  have HH := Lib.hid h
  have BX := Lib.hid (Bx.of w (leO a c s m))
  have CO := Lib.hid (fun w => ok_any a c s m w)
  have CD := Lib.hid (fun w => dir_any d w)
  have CL := Lib.hid (fun w => len_any n w)
  have CF := Lib.hid (fun x w => frc_any x w)
  have HD : Hid (dirB d = true → 0 ≤ d ∧ d ≤ 4) := Lib.hid fun h => inb h
  have HN : Hid (lenB n = true → 1 ≤ n ∧ n ≤ 10000) := Lib.hid fun h => inb h
  have HFI : Hid (∀ x, frcB x = true → 0 ≤ x ∧ x ≤ 1000) := Lib.hid fun x h => inb h
  have HLI := Lib.hid (fun (h : leB a c s m = true) => le_in h)
  have CS := Lib.hid (fun (h1 : leB a c s m = true) (hd : 0 ≤ d ∧ d ≤ 4) (x : Int) (hx : 0 ≤ x ∧ x ≤ 1000) w => stretch_any a c s m d x (le_in h1).1 (le_in h1).2.1 hd hx w)
  have CA := Lib.hid (fun (h1 : leB a c s m = true) (hd : 0 ≤ d ∧ d ≤ 4) (x : Int) (hx : 0 ≤ x ∧ x ≤ 1000) (y : Int) (hy : 0 ≤ y ∧ y ≤ 10000) w => after_any a c s m d y x (le_in h1).1 (le_in h1).2.1 hd hx (le_in h1).2.2.1 hy w)
  have SI := Lib.hid (fun (h1 : leB a c s m = true) (hd : 0 ≤ d ∧ d ≤ 4) (x : Int) (hx : 0 ≤ x ∧ x ≤ 1000) => st_in (le_in h1).1 (le_in h1).2.1 hd hx)
  have AN := Lib.hid (fun (h1 : leB a c s m = true) (hd : 0 ≤ d ∧ d ≤ 4) (x : Int) (hx : 0 ≤ x ∧ x ≤ 1000) (y : Int) (hy : 0 ≤ y) => af_nonneg (le_in h1).1 (le_in h1).2.1 hd hx (le_in h1).2.2.1 hy)
  have L0 : Hid (ln a c s d n f 0 = n) := Lib.hid rfl
  have LS : Hid (∀ j, ln a c s d n f (j + 1) = af a c s d (ln a c s d n f j) (f j)) := Lib.hid fun j => rfl
  have V0 : Hid (leB a c s m = false → ∀ W, Below w.heap.size w W → RpAt a c s m d n k f w (.returned (.tuple #[.slice none 0 0, .int .i64 1])) W) := Lib.hid fun h W hb => rp_no (if_pos h) (by omega) hb
  have VF : Hid (leB a c s m = true → ∀ j, j < k → frcB (f j) = false → ∀ W, Below w.heap.size w W → RpAt a c s m d n k f w (.returned (.tuple #[.slice none 0 0, .int .i64 2])) W) := Lib.hid fun h j hj hf W hb => rp_no (by
    have : ¬ FrP k f := fun t => by rw [t j hj] at hf; cases hf
    unfold rpC; rw [if_neg (by rw [h]; simp), if_pos this]) (by omega) hb
  have V1 : Hid (leB a c s m = true → FrP k f → (dirB d && (lenB n && decide (k ≤ 20))) = false → ∀ W, Below w.heap.size w W → RpAt a c s m d n k f w (.returned (.tuple #[.slice none 0 0, .int .i64 2])) W) := Lib.hid fun h hf hr W hb => rp_no (by unfold rpC; rw [if_neg (by rw [h]; simp), if_neg (by simpa using hf), if_pos hr]) (by omega) hb
  have V2 : Hid (leB a c s m = true → FrP k f → (dirB d && (lenB n && decide (k ≤ 20))) = true → ∀ j, j < k → 40 * m < st a c d (f j) → ∀ W, Below w.heap.size w W → RpAt a c s m d n k f w (.returned (.tuple #[.slice none 0 0, .int .i64 10])) W) := Lib.hid fun h hf hr j hj hx W hb => rp_no (by
    have : ¬ TiP a c m d k f := fun t => by have := t j hj; omega
    unfold rpC; rw [if_neg (by rw [h]; simp), if_neg (by simpa using hf), if_neg (by rw [hr]; simp), if_pos this]) (by omega) hb
  have V3 : Hid (leB a c s m = true → FrP k f → (dirB d && (lenB n && decide (k ≤ 20))) = true → TiP a c m d k f → ∀ j, j < k → 10000 < ln a c s d n f (j + 1) → ∀ W, Below w.heap.size w W → RpAt a c s m d n k f w (.returned (.tuple #[.slice none 0 0, .int .i64 5])) W) := Lib.hid fun h hf hr ht j hj hx W hb => rp_no (by
    have : ¬ LnP a c s d n k f := fun t => by have := t j hj; omega
    unfold rpC; rw [if_neg (by rw [h]; simp), if_neg (by simpa using hf), if_neg (by rw [hr]; simp), if_neg (by simpa using ht), if_pos this]) (by omega) hb
  have V4 : Hid (leB a c s m = true → FrP k f → (dirB d && (lenB n && decide (k ≤ 20))) = true → TiP a c m d k f → LnP a c s d n k f → ∀ (w0 W : World) (v : Value), W.ownsRow w0.heap.size 2 1 v k (upto (fun j => ln a c s d n f (j + 1)) k) → Below w.heap.size w w0 → Below w0.heap.size w0 W → RpAt a c s m d n k f w (.returned (.tuple #[v, .int .i64 0])) W) := Lib.hid fun h hf hr ht hl w0 W v hv h0 hb => rp_ok (by
    unfold rpC; rw [if_neg (by rw [h]; simp), if_neg (by simpa using hf), if_neg (by rw [hr]; simp), if_neg (by simpa using ht), if_neg (by simpa using hl)]) hv h0 hb
  obtain ⟨i0, hi0, hz0, hz1, hz2⟩ := info_parts info_int
  have HIn := Lib.hid (And.intro hi0 (And.intro hz0 (And.intro hz1 hz2)))
  clear h hi0 hz0 hz1 hz2
  unfold FrP at V1 V2 V3 V4
  unfold TiP at V3 V4
  unfold LnP at V4
  generalize RpAt a c s m d n k f w = Q at V0 VF V1 V2 V3 V4 ⊢
  generalize ln a c s d n f = L at L0 LS V3 V4
  generalize leB a c s m = ok at CO HLI CS CA SI AN V0 VF V1 V2 V3 V4
  generalize st a c d = X at CS SI V2 V3 V4
  obtain ⟨AF, hAF⟩ : ∃ AF : Int → Int → Int, ∀ y x, af a c s d y x = AF y x := ⟨_, fun _ _ => rfl⟩
  simp only [hAF] at CA AN LS
  clear hAF
  generalize frcB = FB at CF HFI VF V1 V2 V3 V4
  generalize hr : (dirB d && (lenB n && decide (k ≤ 20))) = rg at V1 V2 V3 V4
  have HA : Hid ((dirB d && (lenB n && decide (k ≤ 20))) = rg) := Lib.hid hr
  clear hr
  generalize dirB d = k1 at CD HD HA
  generalize lenB n = k2 at CL HN HA
  go_enter Try.func25, Try.ntmps25
  go_upto_region 1 with fail
  generalize hw9 : World.alloc _ _ = w0 at BX ⊢
  clear hw9
  obtain ⟨z0, z1, z2, z3⟩ := blk4 BX.out.box
  go_wp2_with fail
  refine (CO.out _).mono ?_
  rintro e w1 ⟨rfl, b1⟩
  have BX1 := Lib.hid (BX.out.below b1)
  clear b1 BX CO z0 z1 z2 z3
  cases ok
  · have HF := Lib.hid (V0.out rfl _ BX1.out.bel)
    clear V0 VF V1 V2 V3 V4 CS CA SI AN L0 LS HLI HD HN HFI CF
    go_wp2_with fail
    exact HF.out
  have UF := Lib.hid (VF.out rfl)
  have U1 := Lib.hid (V1.out rfl)
  have U2 := Lib.hid (V2.out rfl)
  have U3 := Lib.hid (V3.out rfl)
  have U4 := Lib.hid (V4.out rfl)
  obtain ⟨_, _, _, hm⟩ := HLI.out rfl
  have CS1 := Lib.hid (CS.out rfl)
  have CA1 := Lib.hid (CA.out rfl)
  have SI1 := Lib.hid (SI.out rfl)
  have AN1 := Lib.hid (AN.out rfl)
  clear V0 VF V1 V2 V3 V4 CS CA SI AN HLI
  go_wp2_with fail
  go_loopw [10] (fun u wr => ∃ j : Nat, j ≤ k ∧ u = .int .i64 (j : Int) ∧ Hid (Bx w wr (leO a c s m)) ∧ Hid (∀ q, q < j → FB (f q) = true)) (fun u _ => k - (intOf u).toNat)
  case atStart => exact ⟨0, Nat.zero_le _, rfl, BX1, Lib.hid fun q hq => by omega⟩
  case round =>
    obtain ⟨j, hj, rfl, HB, HQ⟩ := hrel
    have f0 : (0 : Int) ≤ (j : Int) := Int.natCast_nonneg _
    by_cases hlt : j < k
    · have f1 : (j : Int) < (k : Int) := by omega
      obtain ⟨b, off, rfl, hb, hc⟩ := HH.out.below HB.out.bel (Nat.le_refl _) (by omega)
      have x0 := hc j hlt
      have CFj := Lib.hid (CF.out (f j))
      have UFj := Lib.hid (UF.out j hlt)
      have HS : Hid (FB (f j) = true → ∀ q, q < j + 1 → FB (f q) = true) := Lib.hid fun h q hq => by
        by_cases e : q = j
        · subst e; exact h
        · exact HQ.out q (by omega)
      have hj1 : j + 1 ≤ k := by omega
      generalize FB (f j) = fb at CFj UFj HS
      clear hc UF U1 U2 U3 U4 CS1 CA1 SI1 AN1 LS L0 HFI HQ
      generalize f j = x at *
      cases fb
      · have HF := Lib.hid (UFj.out rfl _ HB.out.bel)
        clear UFj HS
        go_wp2_with (go_at_call 58; refine (CFj.out _).mono ?_; rintro e w' ⟨rfl, rfl⟩)
        exact HF.out
      · have HS1 := Lib.hid (HS.out rfl)
        clear UFj HS
        go_wp2_with (go_at_call 58; refine (CFj.out _).mono ?_; rintro e w' ⟨rfl, rfl⟩)
        go_roundw
        case rel => exact ⟨j + 1, hj1, by go_num, HB, HS1⟩
        case measure => simp [intOf]; omega
    · obtain rfl : j = k := by omega
      have f1 : ¬ (j : Int) < (j : Int) := by omega
      have T1 := Lib.hid (U1.out HQ.out)
      have T2 := Lib.hid (U2.out HQ.out)
      have T3 := Lib.hid (U3.out HQ.out)
      have T4 := Lib.hid (U4.out HQ.out)
      have HX := Lib.hid (fun q hq => HFI.out (f q) (HQ.out q hq))
      clear UF U1 U2 U3 U4 HQ HFI CF
      cases k1
      · have hr : rg = false := HA.out.symm
        have HF := Lib.hid (T1.out hr _ HB.out.bel)
        clear T1 T2 T3 T4 HX CS1 CA1 SI1 AN1 L0 LS HA HD HN
        go_wp2_with (go_at_call 59; refine (CD.out _).mono ?_; rintro e w' ⟨rfl, rfl⟩)
        exact HF.out
      cases k2
      · have hr : rg = false := HA.out.symm
        have HF := Lib.hid (T1.out hr _ HB.out.bel)
        clear T1 T2 T3 T4 HX CS1 CA1 SI1 AN1 L0 LS HA HD HN
        go_wp2_with (first | (go_at_call 59; refine (CD.out _).mono ?_; rintro e w' ⟨rfl, rfl⟩) | (go_at_call 60; refine (CL.out _).mono ?_; rintro e w' ⟨rfl, rfl⟩))
        exact HF.out
      by_cases h20 : 20 < j
      · have hr : rg = false := by rw [← HA.out]; simp; omega
        have HF := Lib.hid (T1.out hr _ HB.out.bel)
        have g20 : (20 : Int) < (j : Int) := by omega
        clear T1 T2 T3 T4 HX CS1 CA1 SI1 AN1 L0 LS HA HD HN
        go_wp2_with (first | (go_at_call 59; refine (CD.out _).mono ?_; rintro e w' ⟨rfl, rfl⟩) | (go_at_call 60; refine (CL.out _).mono ?_; rintro e w' ⟨rfl, rfl⟩))
        exact HF.out
      have hr : rg = true := by rw [← HA.out]; simp; omega
      have S2 := Lib.hid (T2.out hr)
      have S3 := Lib.hid (T3.out hr)
      have S4 := Lib.hid (T4.out hr)
      have hd := HD.out rfl
      have hn := HN.out rfl
      have CS2 := Lib.hid (fun q hq => CS1.out hd (f q) (HX.out q hq))
      have CA2 := Lib.hid (fun q hq => CA1.out hd (f q) (HX.out q hq))
      have SI2 := Lib.hid (fun q hq => SI1.out hd (f q) (HX.out q hq))
      have AN2 := Lib.hid (fun q hq => AN1.out hd (f q) (HX.out q hq))
      have g20 : ¬ (20 : Int) < (j : Int) := by omega
      clear T1 T2 T3 T4 HX CS1 CA1 SI1 AN1 HA HD HN hr
      go_wp2_with (first | (go_at_call 59; refine (CD.out _).mono ?_; rintro e w' ⟨rfl, rfl⟩) | (go_at_call 60; refine (CL.out _).mono ?_; rintro e w' ⟨rfl, rfl⟩))
      clear CD CL
      go_loopw [11] (fun u wr => ∃ q : Nat, q ≤ j ∧ u = .int .i64 (q : Int) ∧ Hid (Bx w wr (leO a c s m)) ∧ Hid (∀ r, r < q → X (f r) ≤ 40 * m)) (fun u _ => j - (intOf u).toNat)
      case atStart => exact ⟨0, Nat.zero_le _, rfl, HB, Lib.hid fun r hr => by omega⟩
      case round =>
        obtain ⟨q, hq, rfl, HV, HT⟩ := hrel
        have g0 : (0 : Int) ≤ (q : Int) := Int.natCast_nonneg _
        by_cases hql : q < j
        · have g1 : (q : Int) < (j : Int) := by omega
          obtain ⟨b, off, rfl, hb, hc⟩ := HH.out.below HV.out.bel (Nat.le_refl _) (by omega)
          have x0 := hc q hql
          have C0 := CS2.out q hql
          have hx := SI2.out q hql
          have S2q := Lib.hid (S2.out q hql)
          have HS : Hid (X (f q) ≤ 40 * m → ∀ r, r < q + 1 → X (f r) ≤ 40 * m) := Lib.hid fun h r hr => by
            by_cases e : r = q
            · subst e; exact h
            · exact HT.out r (by omega)
          have hq1 : q + 1 ≤ j := by omega
          generalize X (f q) = x at C0 hx S2q HS
          rename World => wr
          have C1 := Lib.hid (fun p : Beyond wr => C0 p.to)
          obtain ⟨z0, z1, z2, z3⟩ := blk4 HV.out.box
          have z0' := bey_cell z0
          have z1' := bey_cell z1
          have z2' := bey_cell z2
          have z3' := bey_cell z3
          have x0' := bey_cell x0
          clear hc C0 z0 z1 z2 z3 x0 CS2 CA2 SI2 AN2 S2 S3 S4 LS L0 HT
          generalize f q = y at *
          go_upto_region 13 with fail
          refine wp_region_below (by kernel_rfl) (by kernel_rfl) ?_
          repeat (go_big_quiet_step ((go_at_call 51; with_reducible exact bey_of _ (C1.out _))))
          refine wpQuiet_nil ?_
          rintro _ ⟨pq, rfl⟩
          have HV2 := Lib.hid (HV.out.below pq.h)
          generalize pq.to = wq at HV2 ⊢
          clear z0' z1' z2' z3' x0' C1 HV
          by_cases hx4 : 40 * m < x
          · have HF := Lib.hid (S2q.out hx4 _ HV2.out.bel)
            clear S2q HS
            go_wp2_with fail
            exact HF.out
          · have HS1 := Lib.hid (HS.out (by omega))
            clear S2q HS
            go_wp2_with fail
            go_roundw
            case rel => exact ⟨q + 1, hq1, by go_num, HV2, HS1⟩
            case measure => simp [intOf]; omega
        · obtain rfl : q = j := by omega
          have g1 : ¬ (q : Int) < (q : Int) := by omega
          have T3 := Lib.hid (S3.out HT.out)
          have T4 := Lib.hid (S4.out HT.out)
          clear S2 S3 S4 CS2 SI2 HT HB
          rename World => w3
          go_wp2_with fail
          have B0 := Lib.hid (below_box w3 (.cells #[] 2))
          have R0 : Hid ((w3.alloc (.cells #[] 2)).ownsRow w3.heap.size 2 1 (.slice (some ⟨w3.heap.size, 0, none⟩) 0 0) 0 (upto (fun r => L (r + 1)) 0)) := Lib.hid (Ow.row_zero w3 _)
          go_loopw [2, 12, 13] (fun y o u wr => ∃ (r : Nat) (v : Value), r ≤ q ∧ y = .int .i64 (L r) ∧ v = o ∧ u = .int .i64 (r : Int) ∧ Hid (Below w3.heap.size w3 wr) ∧ Hid (wr.ownsRow w3.heap.size 2 1 v r (upto (fun r => L (r + 1)) r)) ∧ Hid ((0 ≤ L r ∧ L r ≤ 10000) ∧ ∀ t, t < r → L (t + 1) ≤ 10000)) (fun _ _ u _ => q - (intOf u).toNat)
          case atStart => exact ⟨0, _, Nat.zero_le _, by rw [L0.out], rfl, rfl, B0, R0, Lib.hid ⟨by rw [L0.out]; omega, fun t ht => by omega⟩⟩
          case round =>
            obtain ⟨r, v, hr, rfl, rfl, rfl, HW, HO, HL⟩ := hrel
            have i0' : (0 : Int) ≤ (r : Int) := Int.natCast_nonneg _
            rename World => wr
            have HBx := Lib.hid (HV.out.below HW.out)
            by_cases hrl : r < q
            · have i1 : (r : Int) < (q : Int) := by omega
              obtain ⟨b, off, rfl, hb, hc⟩ := HH.out.below HBx.out.bel (Nat.le_refl _) (by omega)
              have x0 := hc r hrl
              have C0 := CA2.out r hrl (L r) HL.out.1
              have hny := AN2.out r hrl (L r) HL.out.1.1
              have HLS := Lib.hid (LS.out r)
              have T3r := Lib.hid (T3.out r hrl)
              have HS : Hid (0 ≤ L (r + 1) → L (r + 1) ≤ 10000 → (0 ≤ L (r + 1) ∧ L (r + 1) ≤ 10000) ∧ ∀ t, t < r + 1 → L (t + 1) ≤ 10000) := Lib.hid fun h0 h => ⟨⟨h0, h⟩, fun t ht => by
                by_cases e : t = r
                · subst e; exact h
                · exact HL.out.2 t (by omega)⟩
              have HU : Hid (upto (fun r => L (r + 1)) (r + 1) = upto (fun r => L (r + 1)) r ++ [.int .i64 (L (r + 1))]) := Lib.hid (upto_snoc _ r)
              rw [← HLS.out] at C0 hny
              have hr1 : r + 1 ≤ q := by omega
              have C1 := Lib.hid (fun p : Beyond wr => C0 p.to)
              obtain ⟨z0, z1, z2, z3⟩ := blk4 HBx.out.box
              have z0' := bey_cell z0
              have z1' := bey_cell z1
              have z2' := bey_cell z2
              have z3' := bey_cell z3
              have x0' := bey_cell x0
              clear hc C0 z0 z1 z2 z3 x0 CA2 AN2 LS L0 T3 T4 HL HLS
              generalize hl1 : L (r + 1) = l1 at C1 hny T3r HS HU
              generalize L r = l0 at *
              generalize f r = y at *
              go_upto_region 19 with fail
              refine wp_region_below (by kernel_rfl) (by kernel_rfl) ?_
              repeat (go_big_quiet_step ((go_at_call 56; with_reducible exact bey_of _ (C1.out _))))
              refine wpQuiet_nil ?_
              rintro _ ⟨pq, rfl⟩
              have HW2 := Lib.hid (below_then HW.out pq.h)
              have HO2 := Lib.hid (row_below HO.out pq.h)
              generalize pq.to = wq at HW2 HO2 ⊢
              clear z0' z1' z2' z3' x0' C1 HW HO
              by_cases hx4 : 10000 < l1
              · have HF := Lib.hid (T3r.out hx4 _ (below_then HV.out.bel HW2.out))
                clear T3r HS HU
                go_wp2_with fail
                exact HF.out
              · have HS1 := Lib.hid (HS.out hny (by omega))
                have hsz := HW2.out.size
                generalize hcl : upto (fun r => L (r + 1)) r = cl at HO2 HU
                clear T3r HS
                go_wp2_with (at_builtin; refine wpList_append_own _ rfl _ _ 38 rfl w3.heap.size 2 i0 _ 1 8 Try.underlying38 HIn.out.1 HIn.out.2.1 HIn.out.2.2.1 HIn.out.2.2.2 rfl (by decide) _ _ _ rfl (HO2.out.alloc _) ⟨wq.heap.size, 0, none⟩ 1 1 [.int .i64 l1] rfl rfl ?c1 ?c2 ?c3 ?c4 ?c5 ?_)
                try case c1 => exact Ow.cell_new _ _ _
                case c2 => simp [Value.oneCell']
                case c3 => unfold maxLen; omega
                case c4 => omega
                case c5 => first | omega | (simp <;> omega)
                intro v' w6 hown2 hgrow _
                have HQ6 := Lib.hid ((HW2.out.alloc hsz _).grown hgrow (by simp; omega) fun g hg => (HO2.out.lt g hg).1)
                have HO6 : Hid (w6.ownsRow w3.heap.size 2 1 v' (r + 1) (upto (fun r => L (r + 1)) (r + 1))) := Lib.hid (by rw [HU.out]; exact hown2)
                clear hown2 hgrow
                go_wp2_with fail
                go_roundw
                case rel => exact ⟨r + 1, _, hr1, by rw [hl1], rfl, by go_num, HQ6, HO6, Lib.hid (by rw [hl1]; exact HS1.out)⟩
                case measure => simp [intOf]; omega
            · obtain rfl : r = q := by omega
              have i1 : ¬ (r : Int) < (r : Int) := by omega
              have HZ := Lib.hid (T4.out HL.out.2 w3 wr v HO.out HV.out.bel HW.out)
              clear T3 T4 CA2 AN2 LS L0 HL
              generalize L r = l0 at *
              go_wp2_with fail
              exact HZ.out
end Go.Proofs.Ytgclhkiiaclkgaa.Jf
