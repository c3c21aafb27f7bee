/- How many builds have a sum: the spec's. -/
import Derived.Test.YtpmmfalpcooenabCbLib
import Derived.Deep.RegionHeld3
import Derived.IntWalk
namespace Go.Proofs.Ytpmmfalpcooenab.Cb
open Go.RowKit Go.Maps Ft Is Ge Qb Ly Kc Mm Tk
open Un (codeL code_ok code_spec)

theorem min_any (a b : Int) (w : World) : Calls Try.prog 81 #[.int .i64 a, .int .i64 b] w fun e w' => e = .returned (.int .i64 (min a b)) ∧ w = w' := by
  by_cases h : a < b
  · have hm := Lib.hid (show min a b = a by omega)
    go_enter Try.func81, Try.ntmps81
    go_wp2
    go_ret
    exact ⟨by rw [hm.out]; rfl, rfl⟩
  · have hm := Lib.hid (show min a b = b by omega)
    go_enter Try.func81, Try.ntmps81
    go_wp2
    go_ret
    exact ⟨by rw [hm.out]; rfl, rfl⟩
/-- A number, or one more than the greatest that is told. -/
def cap (v : Int) : Int := min 1000000000001 v
/-- The cells while kind i is reckoned, up to z. -/
def row (d : Nat → Int) (i z j : Nat) : Int := if j < z then cap (cn d (i + 1) j) else cap (cn d i j)
theorem cn_same {d : Nat → Int} {i j : Nat} (hd : ∀ q, q < i + 1 → 1 ≤ d q) (h : (j : Int) < d i) : cn d (i + 1) j = cn d i j := by
  by_cases e : j = 0
  · subst e
    rw [show ((0 : Nat) : Int) = 0 from rfl, cn_zero, cn_zero]
  · rw [cn_step hd (by omega), cn_neg d (i + 1) (s := (j : Int) - d i) (by omega), Int.add_zero]
theorem row_start {d : Nat → Int} {i z : Nat} (hd : ∀ q, q < i + 1 → 1 ≤ d q) (hz : (z : Int) = d i) (j : Nat) : row d i z j = cap (cn d i j) := by
  unfold row
  split
  · rw [cn_same hd (by omega)]
  · rfl
theorem row_end {d : Nat → Int} {i z j : Nat} (h : j < z) : row d i z j = cap (cn d (i + 1) j) := if_pos h
theorem row_step {d : Nat → Int} {i z : Nat} (hd : ∀ q, q < i + 1 → 1 ≤ d q) {p : Nat} (hz : (z : Int) - d i = p) (h0 : 0 ≤ cn d i z) (h1 : 0 ≤ cn d (i + 1) p) : min 1000000000001 (row d i z z + row d i z p) = row d i (z + 1) z := by
  have h := hd i (by omega)
  have e1 : row d i z z = cap (cn d i z) := if_neg (by omega)
  have e2 : row d i z p = cap (cn d (i + 1) p) := if_pos (by omega)
  have e3 : row d i (z + 1) z = cap (cn d (i + 1) z) := if_pos (by omega)
  rw [e1, e2, e3, cn_step (s := (z : Int)) hd (by omega), hz]
  unfold cap
  omega
theorem row_other {d : Nat → Int} {i z j : Nat} (h : j ≠ z) : row d i (z + 1) j = row d i z j := by
  unfold row
  by_cases q : j < z
  · rw [if_pos q, if_pos (by omega)]
  · rw [if_neg q, if_neg (by omega)]
theorem at_set {w : World} {g m : Nat} {f f' : Nat → Int} {z : Nat} (h : At w g m f) (hf : ∀ j, j ≠ z → f' j = f j) : At (w.setCell ⟨g, z, none⟩ (.int .i64 (f' z))) g m f' :=
  ⟨by simpa using h.1, fun i hi => by
    by_cases e : i = z
    · subst e
      exact World.cell?_setCell_same _ _ _ (h.2.1 i hi)
    · rw [World.cell?_setCell_other _ _ _ _ (show (⟨g, z, none⟩ : Addr) ≠ ⟨g, i, none⟩ from fun q => e (Addr.mk.inj q).2.1.symm), h.2.1 i hi, hf i e], fun i => (World.frozen?_setCell _ _ _ _).trans (h.2.2 i)⟩
theorem at_drew {w : World} {g m : Nat} {f : Nat → Int} (h : At w g m f) : At w.drew g m f := h
theorem at_congr {w : World} {g m : Nat} {f f' : Nat → Int} (h : At w g m f) (hf : ∀ j, j < m → f' j = f j) : At w g m f' := ⟨h.1, fun i hi => by rw [hf i hi]; exact h.2.1 i hi, h.2.2⟩
theorem at_lit (w : World) {m : Nat} {cs : Array Value} {f : Nat → Int} (h : ∀ i, i < m → cs[i]? = some (.int .i64 (f i))) : At (w.alloc (.cells cs 2)) w.heap.size m f :=
  ⟨by simp, fun i hi => (cell_of_row _ _ _ _ _ _ (heap_alloc_new w _)).trans (h i hi), fun i => blk_free (heap_alloc_new w _) i⟩
theorem row0 (d : Nat → Int) (S i : Nat) (hi : i < S + 1) : ((Go.madeCells #[Value.int .i64 0] (S + 1)).setIfInBounds 0 (.int .i64 1))[i]? = some (.int .i64 (cap (cn d 0 i))) := by
  have c0 : cap 0 = 0 := by decide
  have c1 : cap 1 = 1 := by decide
  by_cases e : i = 0
  · subst e
    rw [show ((0 : Nat) : Int) = 0 from rfl, cn_zero, c1]
    simp [Go.madeCells]
  · rw [cn_none d (by omega), c0]
    simp [Go.madeCells, Ne.symm e, hi, Nat.mod_one]
set_option maxRecDepth 100000 in
set_option maxHeartbeats 4000000 in
theorem spec_cb (A : Option Addr) (n c : Nat) (d : Nat → Int) (s : Int) (hn : n ≤ 1048576) (w : World) (hA : Nums w w.heap.size A n d) :
    Calls Try.prog 33 #[.slice A n c, .int .i64 s] w fun e w' => e = .returned (.tuple #[.int .i64 (cbV n d s), .int .i64 (cbC n d s)]) ∧ Below w.heap.size w w' := by
  have C := Lib.hid (code_spec A n c d s hn w hA)
  have HA := Lib.hid hA
  by_cases h0 : codeL n d s = 0
  · obtain ⟨hL, hs0, hs1⟩ := code_ok h0
    obtain ⟨S, rfl⟩ : ∃ S : Nat, s = S := ⟨s.toNat, by omega⟩
    have hn8 := hL.1
    obtain ⟨i0, hi0, hz0, hz1, hz2⟩ := info_parts info_int
    have HMK : Hid (∀ w : World, (Instr.makeSlice 22 (.int .i64 ((S : Int) + 1)) (.int .i64 ((S : Int) + 1))).run Try.prog w = .ok (.slice (some ⟨w.heap.size, 0, none⟩) (S + 1) (S + 1)) (w.alloc (.cells (Go.madeCells (Value.int .i64 0).cells (S + 1)) 2))) := Lib.hid fun w => by
      have := run_make w _ _ i0 _ Try.underlying22 hi0 hz0 .i64 .i64 ((S : Int) + 1) ((S : Int) + 1) (by omega) (by omega) (by rw [hz2]; omega) (by omega)
      rw [hz1] at this
      rw [show ((S : Int) + 1).toNat = S + 1 by omega, Nat.mul_one] at this
      exact this
    have HD : Hid (∀ i, i < n → 1 ≤ d i ∧ d i ≤ 200) := Lib.hid (lay_of hL)
    have HN : Hid (∀ i j : Nat, i ≤ n → j ≤ 1000 → 0 ≤ cn d i j ∧ cn d i j ≤ 1000000000000000000) := Lib.hid fun i j hi hj => cn_small (by omega) (by omega) (fun q hq => (lay_of hL q (by omega)).1)
    have HV : Hid (cbV n d (S : Int) = if 1000000000000 < cn d n S then 0 else cn d n S) := Lib.hid (by unfold cbV; rw [if_pos h0])
    have HW : Hid (cbC n d (S : Int) = if 1000000000000 < cn d n S then 5 else 0) := Lib.hid (by unfold cbC; rw [if_pos h0])
    rw [h0] at C
    generalize cbV n d (S : Int) = q1 at HV ⊢
    generalize cbC n d (S : Int) = q2 at HW ⊢
    clear hi0 hz0 hz1 hz2 hA hL h0
    go_enter Try.func33, Try.ntmps33
    go_wp2_with fail
    refine C.out.mono ?_
    rintro e w1 ⟨rfl, b1⟩
    have HB1 := Lib.hid b1
    have HA1 := Lib.hid ((HA.out.below b1 (Nat.le_refl _)).more b1.size)
    have hmk := HMK.out w1
    clear C b1 HA HMK
    have c0 : (Go.madeCells #[Value.int .i64 0] (S + 1))[0]? = some (.int .i64 0) := by simp [Go.madeCells]
    have HB2 := Lib.hid (below_box w1 (.cells ((Go.madeCells #[Value.int .i64 0] (S + 1)).setIfInBounds 0 (.int .i64 1)) 2))
    have HM0 := Lib.hid (at_lit w1 (m := S + 1) (cs := (Go.madeCells #[Value.int .i64 0] (S + 1)).setIfInBounds 0 (.int .i64 1)) (f := fun j => cap (cn d 0 j)) (fun i hi => row0 d S i hi))
    go_wp2_with fail
    clear hmk c0
    generalize w1.alloc _ = w2 at HB2 HM0 ⊢
    have HA2 := Lib.hid (HA1.out.below HB2.out (Nat.le_refl _))
    go_loopw [8, 9] (fun i _ wr => ∃ k : Nat, k ≤ n ∧ i = .int .i64 (k : Int) ∧ Hid (Below w1.heap.size w1 wr) ∧ Hid (At wr w1.heap.size (S + 1) (fun j => cap (cn d k j)))) (fun i _ _ => n - (intOf i).toNat)
    case atStart => exact ⟨0, Nat.zero_le _, rfl, HB2, HM0⟩
    case round =>
      obtain ⟨k, hk, rfl, HB, HM⟩ := hrel
      have e0 : (0 : Int) ≤ (k : Int) := Int.natCast_nonneg _
      by_cases hlt : k < n
      · have e1 : (k : Int) < (n : Int) := by omega
        obtain ⟨bq, off, rfl, hb, hc⟩ := (HA1.out.below HB.out (Nat.le_refl _)) (by omega)
        have x0 := hc k hlt
        obtain ⟨d1, d2⟩ := HD.out k hlt
        have hdd : ∀ q, q < k + 1 → 1 ≤ d q := fun q hq => (HD.out q (by omega)).1
        have HX : Hid (∀ W, Below w1.heap.size w1 W → W.cell? ⟨bq, off + k, none⟩ = some (.int .i64 (d k))) := Lib.hid fun W h => (h.cell (p := ⟨bq, off + k, none⟩) hb).trans (by
          obtain ⟨bq', off', e, _, hc'⟩ := HA1.out (by omega)
          cases e
          exact hc' k hlt)
        have HM2 : Hid (At wr w1.heap.size (S + 1) (fun j => row d k (d k).toNat j)) := Lib.hid (at_congr HM.out fun j hj => row_start hdd (by omega) j)
        have HE : Hid (∀ W z, S < z → At W w1.heap.size (S + 1) (fun j => row d k z j) → At W w1.heap.size (S + 1) (fun j => cap (cn d (k + 1) j))) := Lib.hid fun W z hz h => at_congr h fun j hj => (row_end (by omega)).symm
        have HS : Hid (∀ z p : Nat, z ≤ S → (z : Int) - d k = p → min 1000000000001 (row d k z z + row d k z p) = row d k (z + 1) z) := Lib.hid fun z p hz hp => row_step hdd hp (HN.out k z (by omega) (by omega)).1 (HN.out (k + 1) p (by omega) (by omega)).1
        have HRb : Hid (∀ z j : Nat, z ≤ S → j ≤ S → 0 ≤ row d k z j ∧ row d k z j ≤ 1000000000001) := Lib.hid fun z j hz hj => by
          have h1 := (HN.out k j (by omega) (by omega)).1
          have h2 := (HN.out (k + 1) j (by omega) (by omega)).1
          unfold row cap
          split <;> omega
        have hdn : (((d k).toNat : Nat) : Int) = d k := by omega
        have HRo : Hid (∀ z j : Nat, j ≠ z → row d k (z + 1) j = row d k z j) := Lib.hid fun z j h => row_other h
        generalize hR : row d k = R at HM2 HE HS HRb HRo
        clear hc HM hR hdd
        go_wp2_with fail
        go_loopw [9] (fun i wx => ∃ z : Nat, i = .int .i64 (z : Int) ∧ d k ≤ (z : Int) ∧ (z : Int) ≤ max ((S : Int) + 1) (d k) ∧ Hid (Below w1.heap.size w1 wx) ∧ Hid (At wx w1.heap.size (S + 1) (fun j => R z j))) (fun i _ => S + 1 - (intOf i).toNat)
        case atStart => exact ⟨(d k).toNat, by rw [hdn], by omega, by omega, HB, HM2⟩
        case round =>
          obtain ⟨z, rfl, hz1, hz2, HBx, HMx⟩ := hrel
          by_cases hzs : (z : Int) ≤ (S : Int)
          · obtain ⟨p, hp⟩ : ∃ p : Nat, (z : Int) - d k = (p : Int) := ⟨((z : Int) - d k).toNat, by omega⟩
            have y0 : wr.cell? ⟨bq, off + k, none⟩ = some (.int .i64 (d k)) := HX.out _ HBx.out
            have z0 : wr.cell? ⟨w1.heap.size, p, none⟩ = some (.int .i64 (R z p)) := HMx.out.2.1 p (by omega)
            have z1 : wr.cell? ⟨w1.heap.size, z, none⟩ = some (.int .i64 (R z z)) := HMx.out.2.1 z (by omega)
            have z2 := HMx.out.2.2 z
            have HSz := Lib.hid (HS.out z p (by omega) hp)
            obtain ⟨t1, t2⟩ := HRb.out z z (by omega) (by omega)
            obtain ⟨t3, t4⟩ := HRb.out z p (by omega) (by omega)
            have HM3 := Lib.hid (at_set (f' := fun j => R (z + 1) j) (z := z) HMx.out (fun j hj => HRo.out z j hj))
            have HC := Lib.hid (fun w => min_any 1000000000001 (R z z + R z p) w)
            rw [HSz.out] at HC
            have hpz : p ≠ z := by omega
            have g1 : (0 : Int) ≤ (z : Int) := Int.natCast_nonneg _
            have g2 : (z : Int) < (S : Int) + 1 := by omega
            have g3 : (0 : Int) ≤ (p : Int) := Int.natCast_nonneg _
            have g4 : (p : Int) < (S : Int) + 1 := by omega
            have HB3 := Lib.hid (HBx.out.setCell (p := ⟨w1.heap.size, z, none⟩) (Nat.le_refl _) (.int .i64 (R (z + 1) z)))
            have hz3 : d k ≤ ((z + 1 : Nat) : Int) ∧ ((z + 1 : Nat) : Int) ≤ max ((S : Int) + 1) (d k) := by omega
            have hw1 : IntKind.i64.wrap ((z : Int) - d k) = (p : Int) := by rw [hp]; exact IntWalk.i64_in _ (by omega)
            have hw2 : IntKind.i64.wrap (R z z + R z p) = R z z + R z p := IntWalk.i64_in _ (by omega)
            generalize d k = u at y0 hw1 hz3 ⊢
            generalize R z z = v1 at z1 HC hw2
            generalize R z p = v2 at z0 HC hw2
            generalize hy : R (z + 1) z = y at HM3 HC HB3
            clear t1 t2 t3 t4 HSz hy hp
            go_wp2_with fail
            go_region_with (go_at_call 81; refine (HC.out _).mono ?_; rintro e wn ⟨rfl, rfl⟩)
            all_goals
              go_wp2_with fail
              go_roundw
              case rel => exact ⟨z + 1, by go_num, hz3.1, hz3.2, by first | exact Lib.hid HB3.out.drew | exact HB3, by first | exact HM3 | exact Lib.hid (at_drew HM3.out)⟩
              case measure => simp [intOf]; omega
          · have HF := Lib.hid (HE.out _ z (by omega) HMx.out)
            go_wp2_with fail
            go_roundw
            case rel => exact ⟨k + 1, by omega, by go_num, HBx, HF⟩
            case measure => simp [intOf]; omega
      · obtain rfl : k = n := by omega
        have z0 : wr.cell? ⟨w1.heap.size, S, none⟩ = some (.int .i64 (cap (cn d k S))) := HM.out.2.1 S (by omega)
        have g1 : (0 : Int) ≤ (S : Int) := Int.natCast_nonneg _
        have g2 : (S : Int) < (S : Int) + 1 := by omega
        have HB5 := Lib.hid (below_then HB1.out HB.out)
        obtain ⟨u1, u2⟩ := HN.out k S (Nat.le_refl _) (by omega)
        by_cases h : 1000000000000 < cn d k S
        · have HQ := Lib.hid (show q1 = 0 by rw [HV.out, if_pos h])
          have HR := Lib.hid (show q2 = 5 by rw [HW.out, if_pos h])
          rw [show cap (cn d k S) = 1000000000001 from by unfold cap; omega] at z0
          go_wp2_with fail
          exact bodyPost_ret (v := .tuple #[.int .i64 0, .int .i64 5]) (by simp [results, Try.results33, go_sem]) rfl ⟨by rw [HQ.out, HR.out], HB5.out⟩
        · have HQ := Lib.hid (show q1 = cn d k S by rw [HV.out, if_neg h])
          have HR := Lib.hid (show q2 = 0 by rw [HW.out, if_neg h])
          rw [show cap (cn d k S) = cn d k S by unfold cap; omega] at z0
          generalize cn d k (S : Int) = t at z0 h u1 u2 HQ
          go_wp2_with fail
          exact bodyPost_ret (v := .tuple #[.int .i64 t, .int .i64 0]) (by simp [results, Try.results33, go_sem]) rfl ⟨by rw [HQ.out, HR.out], HB5.out⟩
  · have HV : Hid (cbV n d s = 0) := Lib.hid (by unfold cbV; rw [if_neg h0])
    have HW : Hid (cbC n d s = codeL n d s) := Lib.hid (by unfold cbC; rw [if_neg h0])
    have hne : (codeL n d s != 0) = true := by simpa using h0
    generalize cbV n d s = q1 at HV ⊢
    generalize cbC n d s = q2 at HW ⊢
    generalize codeL n d s = r at C hne HW
    clear hA h0
    go_enter Try.func33, Try.ntmps33
    go_wp2_with fail
    refine C.out.mono ?_
    rintro e w1 ⟨rfl, b1⟩
    have HB1 := Lib.hid b1
    clear b1
    go_wp2_with fail
    exact bodyPost_ret (v := .tuple #[.int .i64 0, .int .i64 r]) (by simp [results, Try.results33, go_sem]) rfl ⟨by rw [HV.out, HW.out], HB1.out⟩
end Go.Proofs.Ytpmmfalpcooenab.Cb
