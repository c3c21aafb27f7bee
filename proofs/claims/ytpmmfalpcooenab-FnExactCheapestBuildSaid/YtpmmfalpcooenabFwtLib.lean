/- The fewest layers between two limits: the spec's loop. -/
import Derived.Test.YtpmmfalpcooenabFwsLib
namespace Go.Proofs.Ytpmmfalpcooenab.Fe
open Go.RowKit Go.Maps Ft Is Ge Qb Ly Kn Kf Bh
open Un (PairAt pair_no code_spec codeL code_ok)

/-- A build, if there is one. -/
abbrev ol (o : Option (List Nat)) : List Nat := o.getD []
def WiAt (x : Nat → Int) (o : Option (List Nat)) (w : World) (e : Ending) (w' : World) : Prop :=
  ∃ A cap, e = .returned (.tuple #[.slice A (ol o).length cap, .bool o.isSome]) ∧ Hid (Own w' w.heap.size A (ol o).length (bl x (ol o))) ∧ Hid (Below w.heap.size w w')
theorem bt_one (k l : List Nat) : bt w1 k l ↔ k.length < l.length ∨ (k.length = l.length ∧ Kn.ge k l) := by
  unfold bt
  rw [sm_one, sm_one]
  constructor
  · rintro (h | ⟨h, g⟩)
    · exact Or.inl (by omega)
    · exact Or.inr ⟨by omega, g⟩
  · rintro (h | ⟨h, g⟩)
    · exact Or.inl (by omega)
    · exact Or.inr ⟨by omega, g⟩
theorem comb2_yes {k l : List Nat} (h : ¬ bt w1 k l) : comb2 w1 (some k) (some l) = some l := if_neg h
theorem comb2_no {k l : List Nat} (h : bt w1 k l) : comb2 w1 (some k) (some l) = some k := if_pos h
set_option maxRecDepth 100000 in
set_option maxHeartbeats 4000000 in
theorem within_spec (A : Option Addr) (n c : Nat) (x : Nat → Int) (hL : LyP n x) (lo hi : Nat) (hlo : lo ≤ hi) (hhi : hi ≤ 1000) (w : World) (hA : Nums w w.heap.size A n x) :
    Calls Try.prog 76 #[.slice A n c, .int .i64 (lo : Int), .int .i64 (hi : Int)] w (WiAt x (fo n x lo hi) w) := by
  have HA := Lib.hid hA
  have CF := Lib.hid (fun w h => few_any A n c x hi hL hhi w h)
  have HL := Lib.hid hL
  have HW1 : Hid (∀ j : Nat, W x w1 n lo (j + 1) = comb2 w1 (W x w1 n lo j) (B x w1 n 0 ((lo + j : Nat) : Int))) := Lib.hid fun j => by
    show comb2 w1 _ (B x w1 n 0 ((lo : Int) + j)) = _
    rw [Int.natCast_add]
  have HW0 : Hid (W x w1 n lo 0 = none) := Lib.hid rfl
  have HWn : Hid (W x w1 n lo (hi - lo + 1) = fo n x lo hi) := Lib.hid (by rw [W_is (lay1 hL)]; unfold fo; rw [show ((hi - lo : Nat) : Int) = (hi : Int) - lo by omega])
  have HWm : Hid (∀ j k, j ≤ hi - lo + 1 → W x w1 n lo j = some k → (∀ a ∈ k, a < n) ∧ k.length ≤ 1000) := Lib.hid fun j k hj h => by
    have hb := isB_W (lay1 hL) (lo : Int) j
    rw [h] at hb
    have := (ok_bd (par_of hL) (hi := (lo : Int) + j - 1) (by omega) hb.1).1
    exact ⟨hb.1.mem, by omega⟩
  have HBm : Hid (∀ (z : Nat) l, z ≤ hi → B x w1 n 0 (z : Int) = some l → (∀ a ∈ l, a < n) ∧ l.length ≤ 1000) := Lib.hid fun z l hz h => by
    have hb := B_ok (lay1 hL) h
    have := (ok_bd (par_of hL) (hi := (z : Int) + 0) (by omega) hb).1
    exact ⟨hb.mem, by omega⟩
  have HTn : Hid (∀ z : Nat, FT x n z < 0 → B x w1 n 0 (z : Int) = none) := Lib.hid fun z h => (F_neg_iff (lay1 hL)).1 h
  have HTs : Hid (∀ z : Nat, ¬ FT x n z < 0 → ∃ l, B x w1 n 0 (z : Int) = some l) := Lib.hid fun z h => by
    cases ho : B x w1 n 0 (z : Int) with
    | none => exact absurd ((F_neg_iff (lay1 hL)).2 ho) h
    | some l => exact ⟨l, rfl⟩
  have CG := Lib.hid (fun A2 c2 z hz l hB w hA hF => first_any A A2 n c c2 hi x hL hhi z hz l hB w hA hF)
  have CC := Lib.hid (fun A1 A2 c1 c2 l k h1 h2 h3 h4 w h5 h6 => greater_any hL A1 A2 c1 c2 l k h1 h2 h3 h4 w h5 h6)
  have HP : Hid (∀ A1 cap w', Hid (Own w' w.heap.size A1 (ol (fo n x lo hi)).length (bl x (ol (fo n x lo hi)))) → Below w.heap.size w w' → WiAt x (fo n x lo hi) w (.returned (.tuple #[.slice A1 (ol (fo n x lo hi)).length cap, .bool (fo n x lo hi).isSome])) w') := Lib.hid fun A1 cap w' h1 h2 => ⟨A1, cap, rfl, h1, Lib.hid h2⟩
  generalize WiAt x (fo n x lo hi) w = Q at HP ⊢
  generalize fo n x lo hi = of at HP HWn
  generalize W x w1 n lo = Wf at HW1 HW0 HWn HWm
  generalize FT x n = Tt at CF CG HTn HTs
  generalize B x w1 n 0 = Bz at HW1 HBm CG HTn HTs
  clear hA hL
  go_enter Try.func76, Try.ntmps76
  go_wp2_with fail
  refine (CF.out _ HA.out).mono ?_
  rintro e w1 ⟨A2, cap2, rfl, hf, hb1⟩
  have HB1 := Lib.hid hb1
  have HF := Lib.hid (hf.out.nums)
  have HA1 := Lib.hid ((HA.out.below hb1 (Nat.le_refl _)).more hb1.size)
  clear hb1 hf CF HA
  go_wp2_with fail
  go_loopw [9, 10, 11, 12] (fun o f sm _ wr => ∃ (j : Nat) (A1 : Option Addr) (cap1 : Nat), j ≤ hi - lo + 1 ∧ sm = .int .i64 ((lo : Int) + (j : Int)) ∧ f = .bool (Wf j).isSome ∧ o = .slice A1 (ol (Wf j)).length cap1 ∧ Hid (Own wr w.heap.size A1 (ol (Wf j)).length (bl x (ol (Wf j)))) ∧ Hid (Below w1.heap.size w1 wr)) (fun _ _ sm _ _ => hi + 1 - (intOf sm).toNat)
  case atStart => exact ⟨0, _, _, Nat.zero_le _, by rw [show ((lo : Int) + ((0 : Nat) : Int)) = (lo : Int) by omega], by rw [HW0.out]; rfl, by rw [HW0.out]; rfl, Lib.hid (by rw [HW0.out]; exact fun h => absurd h (Nat.not_lt_zero _)), Lib.hid (below_box _ _)⟩
  case round =>
    obtain ⟨j, A1, cap1, hj, rfl, rfl, rfl, HO, HB⟩ := hrel
    by_cases hlt : j ≤ hi - lo
    · have HFr := Lib.hid ((HF.out.below HB.out (Nat.le_refl _)).more HB.out.size)
      have HAr := Lib.hid ((HA1.out.below HB.out (Nat.le_refl _)).more HB.out.size)
      obtain ⟨g, off, rfl, _, hc⟩ := HFr.out (by omega)
      have t0 := hc (lo + j) (by omega)
      have e0 : (0 : Int) ≤ (lo : Int) + (j : Int) := by omega
      have e1 : (lo : Int) + (j : Int) < ((hi + 1 : Nat) : Int) := by omega
      have e2 : (lo : Int) + (j : Int) ≤ (hi : Int) := by omega
      have t1 : wr.cell? ⟨g, off + ((lo : Int) + (j : Int)).toNat, none⟩ = some (.int .i64 (Tt (lo + j))) := by rw [show ((lo : Int) + (j : Int)).toNat = lo + j by omega]; exact t0
      have HWj := Lib.hid (HW1.out j)
      have HTj := Lib.hid (HTn.out (lo + j))
      have HTk := Lib.hid (HTs.out (lo + j))
      clear hc
      by_cases hT : Tt (lo + j) < 0
      · have HX : Hid (Wf (j + 1) = Wf j) := Lib.hid (by rw [HWj.out, HTj.out hT]; rfl)
        have HO6 := HO
        have HB6 := HB
        generalize Tt (lo + j) = t at t0 t1 hT
        go_wp2_with fail
        go_roundw
        case rel => exact ⟨j + 1, A1, cap1, by omega, by go_num, by rw [HX.out], by rw [HX.out], Lib.hid (by rw [HX.out]; exact HO6.out), HB6⟩
        case measure => simp [intOf]; omega
      · obtain ⟨l, hl⟩ := HTk.out (by omega)
        have CG2 := Lib.hid (CG.out _ cap2 (lo + j) (by omega) l hl _ HAr.out HFr.out)
        rw [Int.natCast_add] at CG2
        obtain ⟨hlm, hll⟩ := HBm.out _ l (by omega) hl
        rw [hl] at HWj
        generalize Tt (lo + j) = t at t0 t1 hT
        clear hl HTj HTk
        go_wp2_with fail
        refine CG2.out.mono ?_
        rintro e w3 ⟨A3, cap3, rfl, ho3, hb3⟩
        have HB6 := Lib.hid (HB.out.trans (hb3.mono HB.out.size))
        have HO6 := Lib.hid (HO.out.below hb3)
        have HO3 := ho3
        have HS3 := Lib.hid (Nat.le_trans HB.out.size hb3.size)
        have HO7 := Lib.hid (fun hp => by
          obtain ⟨b, off, e, q1, q2, q3, q4⟩ := ho3.out hp
          exact (⟨b, off, e, by have := HB1.out.size; have := HB.out.size; omega, q2, q3, q4⟩ : ∃ b off, A3 = some ⟨b, off, none⟩ ∧ w.heap.size ≤ b ∧ b < w3.heap.size ∧ (∀ i, i < l.length → w3.cell? ⟨b, off + i, none⟩ = some (.int .i64 (bl x l i))) ∧ ∀ i, w3.frozen? ⟨b, i, none⟩ = false))
        clear hb3 ho3 CG2 HAr HFr HB HO t0 t1
        cases hW : Wf j with
        | none =>
          rw [hW] at HWj HO6
          have HX : Hid (Wf (j + 1) = some l) := Lib.hid HWj.out
          clear hW HWj
          go_wp2_with fail
          go_roundw
          case rel => exact ⟨j + 1, A3, cap3, by omega, by go_num, by rw [HX.out]; rfl, by rw [HX.out]; rfl, Lib.hid (by rw [HX.out]; exact HO7.out), HB6⟩
          case measure => simp [intOf]; omega
        | some k =>
          rw [hW] at HWj HO6
          obtain ⟨hkm, hkl⟩ := HWm.out j k (by omega) hW
          clear hW
          have HO6 : Hid (Own w3 w.heap.size A1 k.length (bl x k)) := HO6
          have HY : Hid (¬ bt Kf.w1 k l → Wf (j + 1) = some l) := Lib.hid fun h => by rw [HWj.out]; exact comb2_yes h
          have HZ : Hid (bt Kf.w1 k l → Wf (j + 1) = some k) := Lib.hid fun h => by rw [HWj.out]; exact comb2_no h
          clear HWj
          have HX0 : Hid ((ol (some k)).length = k.length ∧ (some k).isSome = true) := Lib.hid ⟨rfl, rfl⟩
          simp only [ol, Option.getD_some, Option.isSome_some]
          rcases Nat.lt_trichotomy l.length k.length with q | q | q
          · have HX : Hid (Wf (j + 1) = some l) := Lib.hid (HY.out fun h => by rcases (bt_one k l).1 h with h | h <;> omega)
            have e3 : (l.length : Int) < (k.length : Int) := by omega
            clear HY HZ CC
            go_wp2_with fail
            go_roundw
            case rel => exact ⟨j + 1, A3, cap3, by omega, by go_num, by rw [HX.out]; rfl, by rw [HX.out]; rfl, Lib.hid (by rw [HX.out]; exact HO7.out), HB6⟩
            case measure => simp [intOf]; omega
          · have HYb : Hid (grB l k = true → Wf (j + 1) = some l) := Lib.hid fun h => HY.out fun h' => by
              have hg : ¬ Kn.ge k l := by unfold grB at h; classical exact of_decide_eq_true h
              rcases (bt_one k l).1 h' with h' | h'
              · omega
              · exact hg h'.2
            have HZb : Hid (grB l k = false → Wf (j + 1) = some k) := Lib.hid fun h => HZ.out ((bt_one k l).2 (Or.inr ⟨q.symm, by
              have hg : ¬ ¬ Kn.ge k l := by unfold grB at h; classical exact of_decide_eq_false h
              exact Classical.not_not.1 hg⟩))
            have CC1 := Lib.hid (CC.out A3 A1 cap3 cap1 l k q hlm hkm hll w3 HO3.out.nums (by rw [q]; exact HO6.out.nums))
            generalize grB l k = r at CC1 HYb HZb
            rw [q] at CC1
            have e3 : ¬ (l.length : Int) < (k.length : Int) := by omega
            have e4 : ((l.length : Int) == (k.length : Int)) = true := by simp; omega
            have HL3 := Lib.hid (congrArg (fun (z : Nat) => (z : Int)) q)
            clear HY HZ CC
            rw [q]
            go_wp2_with fail
            refine CC1.out.mono ?_
            rintro e w4 ⟨rfl, b4⟩
            have HB6 := Lib.hid (HB6.out.trans (b4.mono HS3.out))
            have HO6 := Lib.hid (HO6.out.below b4)
            have HO7 : Hid (Own w4 w.heap.size A3 l.length (bl x l)) := Lib.hid (Own.below HO7.out b4)
            clear b4 CC1
            cases r
            · have HX := Lib.hid (HZb.out (by first | rfl | trivial))
              go_wp2_with fail
              go_roundw
              case rel => exact ⟨j + 1, A1, cap1, by omega, by go_num, by rw [HX.out]; rfl, by rw [HX.out]; rfl, Lib.hid (by rw [HX.out]; exact HO6.out), HB6⟩
              case measure => simp [intOf]; omega
            · have HX := Lib.hid (HYb.out (by first | rfl | trivial))
              go_wp2_with fail
              go_roundw
              case rel => exact ⟨j + 1, A3, cap3, by omega, by go_num, by rw [HX.out]; rfl, by rw [HX.out]; show _ = Value.slice A3 l.length cap3; rw [q], Lib.hid (by rw [HX.out]; exact HO7.out), HB6⟩
              case measure => simp [intOf]; omega
          · have HX : Hid (Wf (j + 1) = some k) := Lib.hid (HZ.out ((bt_one k l).2 (Or.inl q)))
            have e3 : ¬ (l.length : Int) < (k.length : Int) := by omega
            have e4 : ((l.length : Int) == (k.length : Int)) = false := by simp; omega
            clear HY HZ CC
            go_wp2_with fail
            go_roundw
            case rel => exact ⟨j + 1, A1, cap1, by omega, by go_num, by rw [HX.out]; rfl, by rw [HX.out]; rfl, Lib.hid (by rw [HX.out]; exact HO6.out), HB6⟩
            case measure => simp [intOf]; omega
    · obtain rfl : j = hi - lo + 1 := by omega
      have HE := Lib.hid (HP.out A1 cap1 wr (by rw [← HWn.out]; exact HO) (below_then HB1.out HB.out))
      rw [← HWn.out] at HE
      have e2 : ¬ (lo : Int) + ((hi - lo + 1 : Nat) : Int) ≤ (hi : Int) := by omega
      go_wp2_with fail
      exact HE.out
end Go.Proofs.Ytpmmfalpcooenab.Fe
