/- Hides: the spec's: the first fault of a plan, its worth; PlanFault, PlanWorth. -/
import Derived.Test.YtongfgikkcieaaaH5Lib
namespace Go.Proofs.Ytongfgikkcieaaa.H6
set_option linter.unusedVariables false
open Go.RowKit Ft Is Ge Qb Hd Ts H2 H3 H5
open Go.Proofs.Ytongfgikkcieaaa.Nm (byt byt_of)

/-- What is read of a hide, pieces and a plan. -/
structure Ask (w : World) (A : Option Addr) (n : Nat) (f : Nat → ByteArray) (G : Option Addr) (k : Nat) (g : Nat → Int) (P : Option Addr) (m : Nat) (p : Nat → Int) : Prop where
  rows : Txts w w.heap.size A n f
  cuts : Nums w w.heap.size G (k * 4) g
  plan : Nums w w.heap.size P m p
theorem Ask.below {w w' : World} {A : Option Addr} {n : Nat} {f : Nat → ByteArray} {G : Option Addr} {k : Nat} {g : Nat → Int} {P : Option Addr} {m : Nat} {p : Nat → Int} (h : Ask w A n f G k g P m p) (hb : Below w.heap.size w w') : Ask w' A n f G k g P m p :=
  ⟨(h.rows.below hb (Nat.le_refl _)).more hb.size, (h.cuts.below hb (Nat.le_refl _)).more hb.size, (h.plan.below hb (Nat.le_refl _)).more hb.size⟩
theorem field_lt {n C : Nat} {x : Int} (h0 : 0 ≤ x) (h : Ba.inB x (-1) ((n : Int) * (C : Int) - 1) = true) : ∃ t : Nat, x = (t : Int) ∧ t < n * C := by
  have h2 := Ba.in_of h
  have e : (n : Int) * (C : Int) = ((n * C : Nat) : Int) := (Int.natCast_mul _ _).symm
  rw [e] at h2
  exact ⟨x.toNat, by omega, by omega⟩
set_option maxRecDepth 100000 in
set_option maxHeartbeats 4000000 in
theorem wrong (A : Option Addr) (n c : Nat) (f : Nat → ByteArray) (G : Option Addr) (k gc : Nat) (g : Nat → Int) (P : Option Addr) (m pc : Nat) (p : Nat → Int) (i : Nat) (hH : HideP n f) (hC : CutsP k g) (hi : i < m) (hmk : m ≤ k) (hF : ∀ j, j ≤ i → Ba.inB (p j) (-1) ((n : Int) * ((f 0).size : Int) - 1) = true) (w : World) (h : Ask w A n f G k g P m p) :
    Calls Try.prog 100 #[.slice A n c, .slice G k gc, .slice P m pc, .int .i64 (i : Int)] w fun e w' => e = .returned (.bool (tv (WrongP n (f 0).size (qf f) g p i))) ∧ Below w.heap.size w w' := by
  have HH := Lib.hid h
  have hc0 := hH.cols
  have hn := hH.2
  have h36 : n * (f 0).size ≤ 6 * 6 := Nat.mul_le_mul (by omega) (by omega)
  have HW := Lib.hid (fun j (hj : j < k) => cu_in (hC.1 j hj))
  obtain ⟨bp, op, rfl, hbp, hcp⟩ := h.plan (by omega)
  obtain ⟨bg, og, rfl, hbg, hcg⟩ := h.cuts (by omega)
  obtain ⟨bk, ok, rfl, hbk, hck⟩ := h.rows (by omega)
  have y0 := hck 0 (by omega)
  rw [Nat.add_zero] at y0
  have x0 := hcp i hi
  have HCP := Lib.hid hcp
  have HCG := Lib.hid (fun j (hj : j < k) => Cut.cells_at hcg hj)
  have HF := Lib.hid hF
  have WN : Hid (p i < 0 → tv (WrongP n (f 0).size (qf f) g p i) = false) := Lib.hid fun h => tv_no fun e => by have := e.1; omega
  have WY1 : Hid (0 ≤ p i → tv (FitP n (f 0).size (qf f) (g (i * 4)) (g (i * 4 + 1)) (g (i * 4 + 2)) (p i).toNat) = false → tv (WrongP n (f 0).size (qf f) g p i) = true) := Lib.hid fun h1 h2 => tv_yes ⟨h1, .inl fun q => by rw [tv_yes q] at h2; cases h2⟩
  have WY2 : Hid (∀ j, 0 ≤ p i → j < i → 0 ≤ p j → tv (MeetP (f 0).size (g (i * 4)) (g (i * 4 + 1)) (p i).toNat (g (j * 4)) (g (j * 4 + 1)) (p j).toNat) = true → tv (WrongP n (f 0).size (qf f) g p i) = true) := Lib.hid fun j h1 h2 h3 h4 => tv_yes ⟨h1, .inr ⟨j, h2, h3, tv_iff.1 h4⟩⟩
  have WNN : Hid (tv (FitP n (f 0).size (qf f) (g (i * 4)) (g (i * 4 + 1)) (g (i * 4 + 2)) (p i).toNat) = true → (∀ j, j < i → 0 ≤ p j → tv (MeetP (f 0).size (g (i * 4)) (g (i * 4 + 1)) (p i).toNat (g (j * 4)) (g (j * 4 + 1)) (p j).toNat) = false) → tv (WrongP n (f 0).size (qf f) g p i) = false) := Lib.hid fun h1 h2 => tv_no fun e => by
    rcases e.2 with q | ⟨j, q1, q2, q3⟩
    · exact q (tv_iff.1 h1)
    · have := h2 j q1 q2; rw [tv_yes q3] at this; cases this
  have FT := Lib.hid (fun (t : Nat) (ht : t < n * (f 0).size) w hA => fits (some ⟨bk, ok, none⟩) n c f (g (i * 4)) (g (i * 4 + 1)) (g (i * 4 + 2)) (g (i * 4 + 3)) t hH (HW.out i (by omega)).1 (HW.out i (by omega)).2.1 ht w hA)
  have MT := Lib.hid (fun (t u j : Nat) (hj : j < k) (ht : t < 36) (hu : u < 36) w => meet (f 0).size (g (i * 4)) (g (i * 4 + 1)) (g (i * 4 + 2)) (g (i * 4 + 3)) (g (j * 4)) (g (j * 4 + 1)) (g (j * 4 + 2)) (g (j * 4 + 3)) t u hc0 ht hu (HW.out i (by omega)).1 (HW.out i (by omega)).2.1 (HW.out j hj).1 (HW.out j hj).2.1 w)
  have FI := Lib.hid (fun h0 => field_lt h0 (hF i (Nat.le_refl _)))
  have FJ := Lib.hid (fun j (hj : j < i) h0 => field_lt h0 (hF j (by omega)))
  obtain ⟨g0, g1, g2, g3⟩ := Cut.cells_at hcg (show i < k by omega)
  have hk4 := hC.2
  have e2 : (0 : Int) < (n : Int) := by omega
  have e3 : 0 < n := by omega
  have e4 : (0 : Int) ≤ (i : Int) := Int.natCast_nonneg _
  have e5 : (i : Int) < (m : Int) := by omega
  have e6 : (i : Int) < (k : Int) := by omega
  have hik : i < k := by omega
  clear h hH hC hF hcp hcg hck
  generalize tv (WrongP n (f 0).size (qf f) g p i) = r at WN WY1 WY2 WNN ⊢
  by_cases hneg : p i < 0
  · have HR := Lib.hid (WN.out hneg)
    clear WY1 WY2 WNN FT MT FI FJ
    generalize p i = pi at x0 hneg
    go_enter Try.func100, Try.ntmps100
    go_wp2_with fail
    go_ret
    exact ⟨Ba.ret_bool HR.out.symm, Below.refl _ _⟩
  obtain ⟨t, ht, htn⟩ := FI.out (by omega)
  have WZ1 := Lib.hid (WY1.out (by omega))
  have WZ2 := Lib.hid (fun j => WY2.out j (by omega))
  clear WY1 WY2
  rw [ht] at WZ1 WZ2 WNN x0
  rw [Int.toNat_natCast] at WZ1 WNN
  simp only [Int.toNat_natCast] at WZ2
  have C1 := Lib.hid (fun z : Beyond w => FT.out t htn z.to (HH.out.below z.h).rows)
  have MU := Lib.hid (fun (u j : Nat) (hj : j < k) (hu : u < 36) w => MT.out t u j hj (by omega) hu w)
  clear MT
  have ht0 : (0 : Int) ≤ (t : Int) := Int.natCast_nonneg _
  clear WN FI FT hneg ht
  generalize tv (FitP n (f 0).size (qf f) (g (i * 4)) (g (i * 4 + 1)) (g (i * 4 + 2)) t) = rf at WZ1 WNN C1
  obtain ⟨MB, hMB⟩ : ∃ MB : Nat → Nat → Bool, ∀ j u, tv (MeetP (f 0).size (g (i * 4)) (g (i * 4 + 1)) t (g (j * 4)) (g (j * 4 + 1)) u) = MB j u := ⟨_, fun _ _ => rfl⟩
  simp only [hMB] at WZ2 WNN MU
  clear hMB
  generalize g (i * 4) = u0 at *
  generalize g (i * 4 + 1) = u1 at *
  generalize g (i * 4 + 2) = u2 at *
  generalize g (i * 4 + 3) = u3 at *
  generalize f 0 = z at *
  have G0 := Lib.hid g0
  have G1 := Lib.hid g1
  have G2 := Lib.hid g2
  have G3 := Lib.hid g3
  have X0 := Lib.hid x0
  have Y0 := Lib.hid y0
  unfold cuV at C1 MU
  go_enter Try.func100, Try.ntmps100
  go_upto_region 3 with fail
  have x0' := bey_cell x0
  have g0' := bey_cell g0
  have g1' := bey_cell g1
  have g2' := bey_cell g2
  have g3' := bey_cell g3
  clear x0 g0 g1 g2 g3 y0
  refine wp_region_below (by kernel_rfl) (by kernel_rfl) ?_
  repeat (go_big_quiet_step ((go_at_call 97; with_reducible exact bey_of _ (C1.out _))))
  refine wpQuiet_nil ?_
  rintro _ ⟨pq, rfl⟩
  have HQ := Lib.hid pq.h
  generalize pq.to = wq at HQ ⊢
  clear x0' g0' g1' g2' g3' C1
  cases rf
  · have HR := Lib.hid (WZ1.out rfl)
    go_wp2_with fail
    go_ret
    exact ⟨Ba.ret_bool HR.out.symm, HQ.out⟩
  have WNM := Lib.hid (WNN.out (by first | rfl | trivial))
  clear WZ1 WNN
  go_wp2_with fail
  go_loopw [9] (fun jj wr => ∃ j : Nat, j ≤ i ∧ jj = .int .i64 (j : Int) ∧ Hid (Below w.heap.size w wr) ∧ Hid (∀ q, q < j → 0 ≤ p q → MB q (p q).toNat = false)) (fun jj _ => i - (intOf jj).toNat)
  case atStart => exact ⟨0, Nat.zero_le _, rfl, HQ, Lib.hid fun j hj => by omega⟩
  case round =>
    obtain ⟨j, hj, rfl, HB, HM⟩ := hrel
    have f0 : (0 : Int) ≤ (j : Int) := Int.natCast_nonneg _
    by_cases hlt : j < i
    · have f1 : (j : Int) < (i : Int) := by omega
      have f2 : (j : Int) < (m : Int) := by omega
      have f3 : (j : Int) < (k : Int) := by omega
      have hjm : j < m := by omega
      have hjk : j < k := by omega
      have hj1 : j + 1 ≤ i := by omega
      have z0 := (HB.out.cell (p := ⟨bp, op + j, none⟩) hbp).trans (HCP.out j (by omega))
      by_cases hp : p j < 0
      · have HD : Hid (∀ q, q < j + 1 → 0 ≤ p q → MB q (p q).toNat = false) := Lib.hid fun q hq h0 => by
          by_cases e : q = j
          · subst e; omega
          · exact HM.out q (by omega) h0
        have hp' : ¬ 0 ≤ p j := by omega
        generalize p j = pj at z0 hp hp'
        have z0' := bey_cell z0
        clear hj hp z0
        go_upto_region 8 with fail
        refine wp_region_below (by kernel_rfl) (by kernel_rfl) ?_
        repeat (go_big_quiet_step (fail))
        refine wpQuiet_nil ?_
        rintro _ ⟨pq, rfl⟩
        have HQ2 := Lib.hid (below_then HB.out pq.h)
        generalize pq.to = wv at HQ2 ⊢
        clear z0'
        go_wp2_with fail
        go_roundw
        case rel => exact ⟨j + 1, hj1, by go_num, HQ2, HD⟩
        case measure => simp [intOf]; omega
      · obtain ⟨u, hu, hun⟩ := FJ.out j hlt (by omega)
        have hu36 : u < 36 := by omega
        have C := Lib.hid (fun w => MU.out u j hjk hu36 w)
        have HD : Hid (MB j u = false → ∀ q, q < j + 1 → 0 ≤ p q → MB q (p q).toNat = false) := Lib.hid fun h q hq h0 => by
          by_cases e : q = j
          · subst e; rw [hu, Int.toNat_natCast]; exact h
          · exact HM.out q (by omega) h0
        have HY : Hid (MB j u = true → r = true) := Lib.hid fun h => WZ2.out j hlt (by rw [hu]; omega) (by rw [hu, Int.toNat_natCast]; exact h)
        obtain ⟨v0, v1, v2, v3⟩ := HCG.out j hjk
        have v0' := bey_cell ((HB.out.cell (p := ⟨bg, og + j * 4, none⟩) hbg).trans v0)
        have v1' := bey_cell ((HB.out.cell (p := ⟨bg, og + j * 4 + 1, none⟩) hbg).trans v1)
        have v2' := bey_cell ((HB.out.cell (p := ⟨bg, og + j * 4 + 2, none⟩) hbg).trans v2)
        have v3' := bey_cell ((HB.out.cell (p := ⟨bg, og + j * 4 + 3, none⟩) hbg).trans v3)
        have g0' := bey_cell ((HB.out.cell (p := ⟨bg, og + i * 4, none⟩) hbg).trans G0.out)
        have g1' := bey_cell ((HB.out.cell (p := ⟨bg, og + i * 4 + 1, none⟩) hbg).trans G1.out)
        have g2' := bey_cell ((HB.out.cell (p := ⟨bg, og + i * 4 + 2, none⟩) hbg).trans G2.out)
        have g3' := bey_cell ((HB.out.cell (p := ⟨bg, og + i * 4 + 3, none⟩) hbg).trans G3.out)
        have x0' := bey_cell ((HB.out.cell (p := ⟨bp, op + i, none⟩) hbp).trans X0.out)
        have y0' := bey_cell ((HB.out.cell (p := ⟨bk, ok, none⟩) hbk).trans Y0.out)
        rw [hu] at z0
        have z0' := bey_cell z0
        have hu0 : (0 : Int) ≤ (u : Int) := Int.natCast_nonneg _
        generalize MB j u = mb at C HD HY
        generalize g (j * 4) = q0 at v0' C
        generalize g (j * 4 + 1) = q1 at v1' C
        generalize g (j * 4 + 2) = q2 at v2' C
        generalize g (j * 4 + 3) = q3 at v3' C
        clear hj hp z0 v0 v1 v2 v3 hu
        go_upto_region 8 with fail
        refine wp_region_below (by kernel_rfl) (by kernel_rfl) ?_
        repeat (go_big_quiet_step ((go_at_call 116; with_reducible exact bey_of _ (C.out _))))
        refine wpQuiet_nil ?_
        rintro _ ⟨pq, rfl⟩
        have HQ2 := Lib.hid (below_then HB.out pq.h)
        generalize pq.to = wv at HQ2 ⊢
        clear z0' v0' v1' v2' v3' g0' g1' g2' g3' x0' y0' C
        cases mb
        · have HD2 := Lib.hid (HD.out rfl)
          go_wp2_with fail
          go_roundw
          case rel => exact ⟨j + 1, hj1, by go_num, HQ2, HD2⟩
          case measure => simp [intOf]; omega
        · have HR := Lib.hid (HY.out rfl)
          go_wp2_with fail
          go_ret
          exact ⟨Ba.ret_bool HR.out.symm, HQ2.out⟩
    · obtain rfl : j = i := by omega
      have f1 : ¬ (j : Int) < (j : Int) := by omega
      have HR := Lib.hid (WNM.out HM.out)
      go_wp2_with fail
      go_ret
      exact ⟨Ba.ret_bool HR.out.symm, HB.out⟩
/-- The first fault. -/
noncomputable def flI (n : Nat) (f : Nat → ByteArray) (g p : Nat → Int) (m : Nat) : Int := ff (fun i => tv (WrongP n (f 0).size (qf f) g p i)) m
theorem fl_in (n : Nat) (f : Nat → ByteArray) (g p : Nat → Int) (m : Nat) : -1 ≤ flI n f g p m ∧ flI n f g p m < (m : Int) := by
  unfold flI
  rcases ff_cases (fun i => tv (WrongP n (f 0).size (qf f) g p i)) m with ⟨h, _⟩ | ⟨k, h1, _, _, h⟩
  · rw [h]; omega
  · rw [h]; omega
set_option maxRecDepth 100000 in
set_option maxHeartbeats 1000000 in
theorem fault (A : Option Addr) (n c : Nat) (f : Nat → ByteArray) (G : Option Addr) (k gc : Nat) (g : Nat → Int) (P : Option Addr) (m pc : Nat) (p : Nat → Int) (hH : HideP n f) (hC : CutsP k g) (hmk : m = k) (hF : FieldsP n (f 0).size m p) (w : World) (h : Ask w A n f G k g P m p) :
    Calls Try.prog 75 #[.slice A n c, .slice G k gc, .slice P m pc] w fun e w' => e = .returned (.int .i64 (flI n f g p m)) ∧ Below w.heap.size w w' := by
  have HH := Lib.hid h
  have WR := Lib.hid (fun i (hi : i < m) w h => wrong A n c f G k gc g P m pc p i hH hC hi (Nat.le_of_eq hmk) (fun j hj => hF j (by omega)) w h)
  have hk4 := hC.2
  unfold flI
  obtain ⟨B, hB⟩ : ∃ B : Nat → Bool, (fun i => tv (WrongP n (f 0).size (qf f) g p i)) = B := ⟨_, rfl⟩
  have hB2 : ∀ i, tv (WrongP n (f 0).size (qf f) g p i) = B i := fun i => congrFun hB i
  rw [hB]
  simp only [hB2] at WR
  have FN : Hid ((∀ j, j < m → B j = false) → ff B m = -1) := Lib.hid fun h => ff_none h
  have FA : Hid (∀ k, k < m → B k = true → (∀ j, j < k → B j = false) → ff B m = (k : Int)) := Lib.hid fun k hk hp h => ff_at hk hp h
  generalize ff B m = r at FN FA ⊢
  have hm4 : m ≤ 4 := by omega
  clear h hH hC hF hB hB2 hmk
  go_enter Try.func75, Try.ntmps75
  go_wp2_with fail
  go_loopw [7] (fun i wr => ∃ j : Nat, j ≤ m ∧ i = .int .i64 (j : Int) ∧ Hid (Below w.heap.size w wr) ∧ Hid (∀ q, q < j → B q = false)) (fun i _ => m - (intOf i).toNat)
  case atStart => exact ⟨0, Nat.zero_le _, rfl, Lib.hid (Below.refl _ _), Lib.hid fun j hj => by omega⟩
  case round =>
    obtain ⟨j, hj, rfl, HB, HI⟩ := hrel
    have e0 : (0 : Int) ≤ (j : Int) := Int.natCast_nonneg _
    by_cases hlt : j < m
    · have e1 : (j : Int) < (m : Int) := by omega
      have C := Lib.hid (WR.out j hlt wr (HH.out.below HB.out))
      have FAj := Lib.hid (fun h => FA.out j hlt h HI.out)
      have HS : Hid (B j = false → ∀ q, q < j + 1 → B q = false) := Lib.hid fun h q hq => by
        by_cases e : q = j
        · subst e; exact h
        · exact HI.out q (by omega)
      have hj1 : j + 1 ≤ m := by omega
      generalize B j = bj at C FAj HS
      clear hj
      go_wp2_with fail
      refine C.out.mono ?_
      rintro e w1 ⟨rfl, b1⟩
      have HQ := Lib.hid (below_then HB.out b1)
      clear b1 C
      cases bj
      · have HD := Lib.hid (HS.out rfl)
        go_wp2_with fail
        go_roundw
        case rel => exact ⟨j + 1, hj1, by go_num, HQ, HD⟩
        case measure => simp [intOf]; omega
      · have HR := Lib.hid (FAj.out rfl)
        go_wp2_with fail
        go_ret
        exact ⟨Ba.ret_int HR.out.symm, HQ.out⟩
    · obtain rfl : j = m := by omega
      have e1 : ¬ (j : Int) < (j : Int) := by omega
      have HR := Lib.hid (FN.out HI.out)
      clear FN FA
      go_wp2_with fail
      go_ret
      exact ⟨Ba.ret_int HR.out.symm, HB.out⟩
/-- What PlanFault tells. -/
noncomputable def pfV (n : Nat) (f : Nat → ByteArray) (k : Nat) (g : Nat → Int) (m : Nat) (p : Nat → Int) : Int := if plC n f k g m p = 0 then flI n f g p m else 0
def PfAt (n : Nat) (f : Nat → ByteArray) (k : Nat) (g : Nat → Int) (m : Nat) (p : Nat → Int) (w : World) (e : Ending) (w' : World) : Prop := e = .returned (.tuple #[.int .i64 (pfV n f k g m p), .int .i64 (plC n f k g m p)]) ∧ Below w.heap.size w w'
theorem plc_vals (n : Nat) (f : Nat → ByteArray) (k : Nat) (g : Nat → Int) (m : Nat) (p : Nat → Int) : plC n f k g m p = 0 ∨ plC n f k g m p = 1 ∨ plC n f k g m p = 2 := by
  unfold plC
  split
  · exact .inr (.inl rfl)
  · split
    · exact .inl rfl
    · exact .inr (.inr rfl)
set_option maxRecDepth 100000 in
theorem spec_pf (A : Option Addr) (n c : Nat) (f : Nat → ByteArray) (G : Option Addr) (k gc : Nat) (g : Nat → Int) (P : Option Addr) (m pc : Nat) (p : Nat → Int) (hn : n ≤ 1048576) (hs : ∀ i, i < n → (f i).size ≤ 1048576) (hk : k ≤ 1048576) (hm : m ≤ 1048576) (w : World) (h : Ask w A n f G k g P m p) :
    Calls Try.prog 36 #[.slice A n c, .slice G k gc, .slice P m pc] w (PfAt n f k g m p w) := by
  have HH := Lib.hid h
  have C := Lib.hid (code A n c f G k gc g P m pc p hn hs hk hm w h.rows h.cuts h.plan)
  have C2 : Hid (plC n f k g m p = 0 → ∀ w, Ask w A n f G k g P m p → Calls Try.prog 75 #[.slice A n c, .slice G k gc, .slice P m pc] w fun e w' => e = .returned (.int .i64 (flI n f g p m)) ∧ Below w.heap.size w w') := Lib.hid fun h0 w h => by
    obtain ⟨h1, h2, h3, h4⟩ := plc_ok h0
    exact fault A n c f G k gc g P m pc p h1 h2 h4 h3 w h
  have V0 : Hid (¬ plC n f k g m p = 0 → ∀ W, Below w.heap.size w W → PfAt n f k g m p w (.returned (.tuple #[.int .i64 0, .int .i64 (plC n f k g m p)])) W) := Lib.hid fun h W hb => ⟨by unfold pfV; rw [if_neg h], hb⟩
  have V1 : Hid (plC n f k g m p = 0 → ∀ W, Below w.heap.size w W → PfAt n f k g m p w (.returned (.tuple #[.int .i64 (flI n f g p m), .int .i64 0])) W) := Lib.hid fun h W hb => ⟨by unfold pfV; rw [if_pos h, h], hb⟩
  clear h
  generalize PfAt n f k g m p w = Q at V0 V1 ⊢
  generalize plC n f k g m p = cd at C C2 V0 V1
  generalize flI n f g p m = v at C2 V1
  go_enter Try.func36, Try.ntmps36
  go_wp2_with fail
  refine C.out.mono ?_
  rintro e w1 ⟨rfl, b1⟩
  have HB := Lib.hid b1
  clear b1 C
  by_cases h0 : cd = 0
  · subst h0
    have D := Lib.hid (C2.out rfl w1 (HH.out.below HB.out))
    have W1 := Lib.hid (V1.out rfl)
    clear C2 V0 V1
    go_wp2_with fail
    refine D.out.mono ?_
    rintro e w2 ⟨rfl, b2⟩
    have HF := Lib.hid (W1.out w2 (below_then HB.out b2))
    go_wp2_with fail
    exact HF.out
  · have hne : (cd != 0) = true := by simpa using h0
    have HF := Lib.hid (V0.out h0 _ HB.out)
    clear C2 V0 V1
    go_wp2_with fail
    exact HF.out
/-- The code of a plan that must not be faulty. -/
noncomputable def gdC (n : Nat) (f : Nat → ByteArray) (k : Nat) (g : Nat → Int) (m : Nat) (p : Nat → Int) : Int := if plC n f k g m p = 0 then (if 0 ≤ flI n f g p m then 9 else 0) else plC n f k g m p
theorem gd_ok {n : Nat} {f : Nat → ByteArray} {k : Nat} {g : Nat → Int} {m : Nat} {p : Nat → Int} (h : gdC n f k g m p = 0) : plC n f k g m p = 0 ∧ flI n f g p m < 0 := by
  unfold gdC at h
  split at h
  · rename_i h1
    split at h
    · cases h
    · exact ⟨h1, by omega⟩
  · rename_i h1
    exact absurd h h1
set_option maxRecDepth 100000 in
theorem good (A : Option Addr) (n c : Nat) (f : Nat → ByteArray) (G : Option Addr) (k gc : Nat) (g : Nat → Int) (P : Option Addr) (m pc : Nat) (p : Nat → Int) (hn : n ≤ 1048576) (hs : ∀ i, i < n → (f i).size ≤ 1048576) (hk : k ≤ 1048576) (hm : m ≤ 1048576) (w : World) (h : Ask w A n f G k g P m p) :
    Calls Try.prog 77 #[.slice A n c, .slice G k gc, .slice P m pc] w fun e w' => e = .returned (.int .i64 (gdC n f k g m p)) ∧ Below w.heap.size w w' := by
  have HH := Lib.hid h
  have C := Lib.hid (code A n c f G k gc g P m pc p hn hs hk hm w h.rows h.cuts h.plan)
  have C2 : Hid (plC n f k g m p = 0 → ∀ w, Ask w A n f G k g P m p → Calls Try.prog 75 #[.slice A n c, .slice G k gc, .slice P m pc] w fun e w' => e = .returned (.int .i64 (flI n f g p m)) ∧ Below w.heap.size w w') := Lib.hid fun h0 w h => by
    obtain ⟨h1, h2, h3, h4⟩ := plc_ok h0
    exact fault A n c f G k gc g P m pc p h1 h2 h4 h3 w h
  have V0 : Hid (¬ plC n f k g m p = 0 → gdC n f k g m p = plC n f k g m p) := Lib.hid fun h => by unfold gdC; rw [if_neg h]
  have V1 : Hid (plC n f k g m p = 0 → 0 ≤ flI n f g p m → gdC n f k g m p = 9) := Lib.hid fun h h1 => by unfold gdC; rw [if_pos h, if_pos h1]
  have V2 : Hid (plC n f k g m p = 0 → ¬ 0 ≤ flI n f g p m → gdC n f k g m p = 0) := Lib.hid fun h h1 => by unfold gdC; rw [if_pos h, if_neg h1]
  clear h
  generalize gdC n f k g m p = r at V0 V1 V2 ⊢
  generalize plC n f k g m p = cd at C C2 V0 V1 V2
  generalize flI n f g p m = v at C2 V1 V2
  go_enter Try.func77, Try.ntmps77
  go_wp2_with fail
  refine C.out.mono ?_
  rintro e w1 ⟨rfl, b1⟩
  have HB := Lib.hid b1
  clear b1 C
  by_cases h0 : cd = 0
  · subst h0
    have D := Lib.hid (C2.out rfl w1 (HH.out.below HB.out))
    have W1 := Lib.hid (V1.out rfl)
    have W2 := Lib.hid (V2.out rfl)
    clear C2 V0 V1 V2
    go_wp2_with fail
    refine D.out.mono ?_
    rintro e w2 ⟨rfl, b2⟩
    have HB2 := Lib.hid (below_then HB.out b2)
    by_cases hv : 0 ≤ v
    · have HR := Lib.hid (W1.out hv)
      go_wp2_with fail
      go_ret
      exact ⟨Ba.ret_int HR.out.symm, HB2.out⟩
    · have HR := Lib.hid (W2.out (by omega))
      go_wp2_with fail
      go_ret
      exact ⟨Ba.ret_int HR.out.symm, HB2.out⟩
  · have hne : (cd == 0) = false := by simpa using h0
    have HR := Lib.hid (V0.out h0)
    clear C2 V0 V1 V2
    go_wp2_with fail
    go_ret
    exact ⟨Ba.ret_int HR.out.symm, HB.out⟩
/-- The worth of a plan. -/
def woI (g p : Nat → Int) (m : Nat) : Int := Hp.wth (fun i => g (i * 4 + 3)) p m
theorem wo_in {k : Nat} {g p : Nat → Int} (hC : CutsP k g) : ∀ {m : Nat}, m ≤ k → 0 ≤ woI g p m ∧ woI g p m ≤ 1000 * (m : Int)
  | 0, _ => ⟨Int.le_refl _, Int.le_refl _⟩
  | m + 1, h => by
    have h1 := wo_in (p := p) hC (show m ≤ k by omega)
    have h2 := (cu_in (hC.1 m (by omega))).2.2.2
    have e : woI g p (m + 1) = woI g p m + if 0 ≤ p m then g (m * 4 + 3) else 0 := rfl
    rw [e]
    split <;> omega
set_option maxRecDepth 100000 in
theorem worth (G : Option Addr) (k gc : Nat) (g : Nat → Int) (P : Option Addr) (m pc : Nat) (p : Nat → Int) (hC : CutsP k g) (hmk : m ≤ k) (w : World) (hG : Nums w w.heap.size G (k * 4) g) (hP : Nums w w.heap.size P m p) :
    Calls Try.prog 78 #[.slice G k gc, .slice P m pc] w fun e w' => e = .returned (.int .i64 (woI g p m)) ∧ w = w' := by
  have HG := Lib.hid hG
  have HP := Lib.hid hP
  have hk4 := hC.2
  have W0 : Hid (woI g p 0 = 0) := Lib.hid rfl
  have WY : Hid (∀ j, 0 ≤ p j → woI g p (j + 1) = woI g p j + g (j * 4 + 3)) := Lib.hid fun j h => by
    show woI g p j + (if 0 ≤ p j then g (j * 4 + 3) else 0) = _
    rw [if_pos h]
  have WN : Hid (∀ j, ¬ 0 ≤ p j → woI g p (j + 1) = woI g p j) := Lib.hid fun j h => by
    show woI g p j + (if 0 ≤ p j then g (j * 4 + 3) else 0) = _
    rw [if_neg h]; omega
  have WI := Lib.hid (fun j (hj : j ≤ m) => wo_in (p := p) hC (show j ≤ k by omega))
  have GI := Lib.hid (fun j (hj : j < k) => (cu_in (hC.1 j hj)).2.2.2)
  clear hG hP hC
  generalize woI g p = S at W0 WY WN WI ⊢
  go_enter Try.func78, Try.ntmps78
  go_wp2_with fail
  go_loop [5, 6] (fun s i => ∃ j : Nat, j ≤ m ∧ s = .int .i64 (S j) ∧ i = .int .i64 (j : Int)) (fun _ i => m - (intOf i).toNat)
  case atStart => exact ⟨0, Nat.zero_le _, by rw [W0.out], rfl⟩
  case round =>
    obtain ⟨j, hj, rfl, rfl⟩ := hrel
    have e0 : (0 : Int) ≤ (j : Int) := Int.natCast_nonneg _
    by_cases hlt : j < m
    · have e1 : (j : Int) < (m : Int) := by omega
      have e2 : (j : Int) < (k : Int) := by omega
      obtain ⟨b, off, rfl, hb, hc⟩ := HP.out (by omega)
      obtain ⟨b2, o2, rfl, hb2, hc2⟩ := HG.out (by omega)
      have x0 := hc j hlt
      have hjk : j < k := by omega
      obtain ⟨y0, y1, y2, y3⟩ := Cut.cells_at hc2 hjk
      have w1 := WI.out j hj
      have w2 := GI.out j hjk
      have HY := Lib.hid (WY.out j)
      have HN := Lib.hid (WN.out j)
      have hj1 : j + 1 ≤ m := by omega
      clear hc hc2 y0 y1 y2
      generalize g (j * 4 + 3) = gj at y3 w2 HY
      generalize hS1 : S (j + 1) = s1 at HY HN
      generalize S j = s0 at w1 HY HN ⊢
      generalize p j = pj at x0 HY HN
      by_cases hp : 0 ≤ pj
      · have HE := Lib.hid (HY.out hp)
        go_wp2_with fail
        go_round
        case rel => exact ⟨j + 1, hj1, by rw [hS1, HE.out], by go_num⟩
        case measure => simp [intOf]; omega
      · have HE := Lib.hid (HN.out (by omega))
        go_wp2_with fail
        go_round
        case rel => exact ⟨j + 1, hj1, by rw [hS1, HE.out], by go_num⟩
        case measure => simp [intOf]; omega
    · obtain rfl : j = m := by omega
      have e1 : ¬ (j : Int) < (j : Int) := by omega
      go_wp2_with fail
      go_ret
      exact ⟨rfl, rfl⟩
/-- What PlanWorth tells. -/
noncomputable def pwV (n : Nat) (f : Nat → ByteArray) (k : Nat) (g : Nat → Int) (m : Nat) (p : Nat → Int) : Int := if gdC n f k g m p = 0 then woI g p m else 0
def PwAt (n : Nat) (f : Nat → ByteArray) (k : Nat) (g : Nat → Int) (m : Nat) (p : Nat → Int) (w : World) (e : Ending) (w' : World) : Prop := e = .returned (.tuple #[.int .i64 (pwV n f k g m p), .int .i64 (gdC n f k g m p)]) ∧ Below w.heap.size w w'
set_option maxRecDepth 100000 in
theorem spec_pw (A : Option Addr) (n c : Nat) (f : Nat → ByteArray) (G : Option Addr) (k gc : Nat) (g : Nat → Int) (P : Option Addr) (m pc : Nat) (p : Nat → Int) (hn : n ≤ 1048576) (hs : ∀ i, i < n → (f i).size ≤ 1048576) (hk : k ≤ 1048576) (hm : m ≤ 1048576) (w : World) (h : Ask w A n f G k g P m p) :
    Calls Try.prog 39 #[.slice A n c, .slice G k gc, .slice P m pc] w (PwAt n f k g m p w) := by
  have HH := Lib.hid h
  have C := Lib.hid (good A n c f G k gc g P m pc p hn hs hk hm w h)
  have C2 : Hid (gdC n f k g m p = 0 → ∀ w, Ask w A n f G k g P m p → Calls Try.prog 78 #[.slice G k gc, .slice P m pc] w fun e w' => e = .returned (.int .i64 (woI g p m)) ∧ w = w') := Lib.hid fun h0 w h => by
    obtain ⟨h1, h2, h3, h4⟩ := plc_ok (gd_ok h0).1
    exact worth G k gc g P m pc p h2 (Nat.le_of_eq h4) w h.cuts h.plan
  have V0 : Hid (¬ gdC n f k g m p = 0 → ∀ W, Below w.heap.size w W → PwAt n f k g m p w (.returned (.tuple #[.int .i64 0, .int .i64 (gdC n f k g m p)])) W) := Lib.hid fun h W hb => ⟨by unfold pwV; rw [if_neg h], hb⟩
  have V1 : Hid (gdC n f k g m p = 0 → ∀ W, Below w.heap.size w W → PwAt n f k g m p w (.returned (.tuple #[.int .i64 (woI g p m), .int .i64 0])) W) := Lib.hid fun h W hb => ⟨by unfold pwV; rw [if_pos h, h], hb⟩
  clear h
  generalize PwAt n f k g m p w = Q at V0 V1 ⊢
  generalize gdC n f k g m p = cd at C C2 V0 V1
  generalize woI g p m = v at C2 V1
  go_enter Try.func39, Try.ntmps39
  go_wp2_with fail
  refine C.out.mono ?_
  rintro e w1 ⟨rfl, b1⟩
  have HB := Lib.hid b1
  clear b1 C
  by_cases h0 : cd = 0
  · subst h0
    have D := Lib.hid (C2.out rfl w1 (HH.out.below HB.out))
    have W1 := Lib.hid (V1.out rfl)
    clear C2 V0 V1
    go_wp2_with fail
    refine D.out.mono ?_
    rintro e w2 ⟨rfl, rfl⟩
    have HF := Lib.hid (W1.out w1 HB.out)
    go_wp2_with fail
    exact HF.out
  · have hne : (cd != 0) = true := by simpa using h0
    have HF := Lib.hid (V0.out h0 _ HB.out)
    clear C2 V0 V1
    go_wp2_with fail
    exact HF.out
end Go.Proofs.Ytongfgikkcieaaa.H6
