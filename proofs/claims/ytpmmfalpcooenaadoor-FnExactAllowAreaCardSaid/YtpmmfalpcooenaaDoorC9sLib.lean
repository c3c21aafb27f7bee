/- RoundStrips, AllowArea: the spec's functions, and both. -/
import Derived.Test.YtpmmfalpcooenaaDoorC9rLib
import Derived.Deep.DeepCutAuto
namespace Go.Proofs.YtpmmfalpcooenaaDoor.C9s
set_option linter.unusedVariables false
open Go.RowKit Ft Is Ge Qb Stv Er Ow It C9c C9r

noncomputable def roX (n : Nat) (f : Nat → Int) : Int := if tv (StP n f) = true then C9f.sm (fun k => s n f k 0) n else 0
noncomputable def roY (n : Nat) (f : Nat → Int) : Int := if tv (StP n f) = true then C9f.sm (cl n f) n else 0
noncomputable def arX (n : Nat) (f : Nat → Int) : Int := if tv (StP n f) = true then C9f.sm (ar n f) n else 0
def TriAt (x y c : Int) (w : World) (e : Ending) (w' : World) : Prop := e = .returned (.tuple #[.int .i64 x, .int .i64 y, .int .i64 c]) ∧ Below w.heap.size w w'
set_option maxRecDepth 100000 in
set_option maxHeartbeats 2000000 in
theorem spec_ro (A : Option Addr) (n c : Nat) (f : Nat → Int) (hn : n ≤ 1048576) (w : World) (hA : Nums w w.heap.size A (n * 4) f) :
    Calls Tryd.prog 25 #[.slice A n c] w (TriAt (roX n f) (roY n f) (ctC n f) w) := by
  have HA := Lib.hid hA
  have C0 := Lib.hid (Stv.ok A n c f hn w hA)
  have HN : Hid (tv (StP n f) = false → TriAt (roX n f) (roY n f) (ctC n f) w (.returned (.tuple #[.int .i64 0, .int .i64 0, .int .i64 1])) w) := Lib.hid fun h => by
    unfold roX roY ctC; rw [h]; exact ⟨rfl, Below.refl _ _⟩
  have HY : Hid (tv (StP n f) = true → ∀ W, Below w.heap.size w W → TriAt (roX n f) (roY n f) (ctC n f) w (.returned (.tuple #[.int .i64 (C9f.sm (fun k => s n f k 0) n), .int .i64 (C9f.sm (cl n f) n), .int .i64 0])) W) := Lib.hid fun h W hb => by
    unfold roX roY ctC; rw [h]; exact ⟨rfl, hb⟩
  have HI : Hid (tv (StP n f) = true → n ≤ 12 ∧ (∀ k, k ≤ n → 0 ≤ C9f.sm (fun k => s n f k 0) k ∧ C9f.sm (fun k => s n f k 0) k ≤ 5000 * (k : Int)) ∧ (∀ k, k ≤ n → 0 ≤ C9f.sm (cl n f) k ∧ C9f.sm (cl n f) k ≤ 5400 * (k : Int))) := Lib.hid fun h =>
    ⟨(tv_iff.1 h).2.2, fun k hk => C9f.sm_in (fun i _ => (s_in (tv_iff.1 h) i).1) k hk, fun k hk => C9f.sm_in (fun i _ => cl_in (tv_iff.1 h) i) k hk⟩
  have CF : Hid (tv (StP n f) = true → ∀ k, k < n → ∀ g o W, W.cell? ⟨g, o, none⟩ = some (.int .i64 (f (k * 4))) → W.cell? ⟨g, o + 1, none⟩ = some (.int .i64 (f (k * 4 + 1))) → W.cell? ⟨g, o + 2, none⟩ = some (.int .i64 (f (k * 4 + 2))) → W.cell? ⟨g, o + 3, none⟩ = some (.int .i64 (f (k * 4 + 3))) →
      (f (k * 4) = s n f k 0 ∧ (0 ≤ s n f k 0 ∧ s n f k 0 ≤ 5000) ∧ 0 ≤ cl n f k ∧ cl n f k ≤ 5400) ∧ Calls Tryd.prog 49 #[.pointer (some ⟨g, o, none⟩)] W fun e w' => e = .returned (.int .i64 (cl n f k)) ∧ Below W.heap.size W w') := Lib.hid fun h k hk g o W h0 h1 h2 h3 => by
    obtain ⟨q0, q1, q2, q3⟩ := st_in (tv_iff.1 h) hk
    have := Stv.cut _ _ _ _ q0 q2 q3 g o W h0 h1 h2 h3
    refine ⟨⟨by unfold s; rw [if_pos hk]; rfl, (s_in (tv_iff.1 h) k).1, cl_in (tv_iff.1 h) k⟩, ?_⟩
    unfold cl s
    simp only [if_pos hk, Nat.add_zero]
    exact this
  have U0 : Hid (∀ j, C9f.sm (fun k => s n f k 0) (j + 1) = C9f.sm (fun k => s n f k 0) j + s n f j 0) := Lib.hid fun j => rfl
  have U1 : Hid (∀ j, C9f.sm (cl n f) (j + 1) = C9f.sm (cl n f) j + cl n f j) := Lib.hid fun j => rfl
  have Z0 : Hid (C9f.sm (fun k => s n f k 0) 0 = 0 ∧ C9f.sm (cl n f) 0 = 0) := Lib.hid ⟨rfl, rfl⟩
  clear hA
  generalize TriAt (roX n f) (roY n f) (ctC n f) w = Q at HN HY ⊢
  generalize C9f.sm (fun k => s n f k 0) = SA at HY HI U0 Z0
  generalize C9f.sm (cl n f) = SB at HY HI U1 Z0
  generalize cl n f = D at U1 CF
  have DE : ∃ E : Nat → Int, ∀ k, s n f k 0 = E k := ⟨fun k => s n f k 0, fun _ => rfl⟩
  obtain ⟨E, hE⟩ := DE
  simp only [hE] at U0 CF
  clear hE
  generalize tv (StP n f) = r at C0 HN HY HI CF
  go_enter Tryd.func25, Tryd.ntmps25
  go_wp2_with fail
  refine C0.out.mono ?_
  rintro e w' ⟨rfl, rfl⟩
  cases r
  · have HZ := Lib.hid (HN.out rfl)
    go_wp2_with fail
    exact bodyPost_ret (v := .tuple #[.int .i64 0, .int .i64 0, .int .i64 1]) (by simp [results, Tryd.results25, go_sem]) rfl HZ.out
  obtain ⟨n12, hs0, hs1⟩ := HI.out rfl
  have HS0 := Lib.hid hs0
  have HS1 := Lib.hid hs1
  have CFr := Lib.hid (CF.out rfl)
  have HYr := Lib.hid (HY.out rfl)
  clear HN HY HI CF C0 hs0 hs1
  go_wp2_with fail
  go_loopw [5, 6, 7] (fun u v i wr => ∃ (j : Nat), j ≤ n ∧ u = .int .i64 (SA j) ∧ v = .int .i64 (SB j) ∧ i = .int .i64 (j : Int) ∧ Hid (Below w.heap.size w wr)) (fun _ _ i _ => n - (intOf i).toNat)
  case atStart => exact ⟨0, Nat.zero_le _, by rw [Z0.out.1], by rw [Z0.out.2], rfl, Lib.hid (Below.refl _ _)⟩
  case round =>
    obtain ⟨j, hj, rfl, rfl, rfl, HW⟩ := hrel
    have e0 : (0 : Int) ≤ (j : Int) := Int.natCast_nonneg _
    by_cases hlt : j < n
    · obtain ⟨b, off, rfl, hb, hc⟩ := (HA.out.below HW.out (Nat.le_refl _)) (by omega)
      obtain ⟨x0, x1, x2, x3⟩ := Str.cells_at hc hlt
      have e1 : (j : Int) < (n : Int) := by omega
      have hj1 : j + 1 ≤ n := by omega
      obtain ⟨⟨q0, q1, q2⟩, cj⟩ := CFr.out j hlt b (off + j * 4) wr x0 x1 x2 x3
      have CJ := Lib.hid cj
      have a0 := HS0.out j hj
      have a1 := HS1.out j hj
      have V0 := Lib.hid (U0.out j)
      have V1 := Lib.hid (U1.out j)
      rw [q0] at x0
      clear cj hc x1 x2 x3 q0
      have t0 : IntKind.i64.wrap (SA j + E j) = SA j + E j := IntWalk.i64_in _ (by omega)
      have t1 : IntKind.i64.wrap (SB j + D j) = SB j + D j := IntWalk.i64_in _ (by omega)
      generalize hA1 : SA (j + 1) = A1 at V0
      generalize hB1 : SB (j + 1) = B1 at V1
      generalize SA j = u0 at *
      generalize SB j = u1 at *
      generalize E j = g0 at *
      generalize D j = g1 at *
      go_wp2_with fail
      refine CJ.out.mono ?_
      rintro e w2 ⟨rfl, b2⟩
      have HW2 := Lib.hid (below_then HW.out b2)
      clear CJ b2 x0
      go_wp2_with fail
      go_roundw
      case rel => exact ⟨j + 1, hj1, by rw [hA1, V0.out], by rw [hB1, V1.out], by go_num, HW2⟩
      case measure => simp [intOf]; omega
    · obtain rfl : j = n := by omega
      have e1 : ¬ (j : Int) < (j : Int) := by omega
      have HZ := Lib.hid (HYr.out wr HW.out)
      clear hj HYr CFr
      go_wp2_with fail
      exact bodyPost_ret (v := .tuple #[.int .i64 (SA j), .int .i64 (SB j), .int .i64 0]) (by simp [results, Tryd.results25, go_sem]) rfl HZ.out
theorem impl_ro (A : Option Addr) (n c : Nat) (f : Nat → Int) (hn : n ≤ 1048576) (w : World) (hV : V3 w) (hA : Nums w w.heap.size A (n * 4) f) :
    Calls Tryd.prog 26 #[.slice A n c] w (TriAt (roX n f) (roY n f) (ctC n f) w) := by
  unfold roX roY ctC
  by_cases hP : StP n f
  · rw [tv_yes hP]
    exact round_yes A n c f hP w hV hA
  · rw [tv_no hP]
    exact round_no A n c f hn hP w hV hA
set_option maxRecDepth 100000 in
set_option maxHeartbeats 2000000 in
theorem spec_ar (A : Option Addr) (n c : Nat) (f : Nat → Int) (hn : n ≤ 1048576) (w : World) (hA : Nums w w.heap.size A (n * 4) f) :
    Calls Tryd.prog 30 #[.slice A n c] w (C9f.TwoAt (arX n f) (ctC n f) w) := by
  have HA := Lib.hid hA
  have C0 := Lib.hid (Stv.ok A n c f hn w hA)
  have HN : Hid (tv (StP n f) = false → C9f.TwoAt (arX n f) (ctC n f) w (.returned (.tuple #[.int .i64 0, .int .i64 1])) w) := Lib.hid fun h => by
    unfold arX ctC; rw [h]; exact ⟨rfl, Below.refl _ _⟩
  have HY : Hid (tv (StP n f) = true → ∀ W, Below w.heap.size w W → C9f.TwoAt (arX n f) (ctC n f) w (.returned (.tuple #[.int .i64 (C9f.sm (ar n f) n), .int .i64 0])) W) := Lib.hid fun h W hb => by
    unfold arX ctC; rw [h]; exact ⟨rfl, hb⟩
  have HI : Hid (tv (StP n f) = true → n ≤ 12 ∧ (∀ k, k ≤ n → 0 ≤ C9f.sm (ar n f) k ∧ C9f.sm (ar n f) k ≤ 2080000 * (k : Int))) := Lib.hid fun h =>
    ⟨(tv_iff.1 h).2.2, fun k hk => C9f.sm_in (fun i _ => ar_in (tv_iff.1 h) i) k hk⟩
  have CF : Hid (tv (StP n f) = true → ∀ k, k < n → ∀ g o W, W.cell? ⟨g, o, none⟩ = some (.int .i64 (f (k * 4))) → W.cell? ⟨g, o + 1, none⟩ = some (.int .i64 (f (k * 4 + 1))) → W.cell? ⟨g, o + 2, none⟩ = some (.int .i64 (f (k * 4 + 2))) → W.cell? ⟨g, o + 3, none⟩ = some (.int .i64 (f (k * 4 + 3))) →
      Calls Tryd.prog 49 #[.pointer (some ⟨g, o, none⟩)] W fun e w' => e = .returned (.int .i64 (cl n f k)) ∧ Below W.heap.size W w') := Lib.hid fun h k hk g o W h0 h1 h2 h3 => by
    obtain ⟨q0, q1, q2, q3⟩ := st_in (tv_iff.1 h) hk
    have := Stv.cut _ _ _ _ q0 q2 q3 g o W h0 h1 h2 h3
    unfold cl s
    simp only [if_pos hk, Nat.add_zero]
    exact this
  have CE : Hid (tv (StP n f) = true → ∀ k, k < n → (0 ≤ f (k * 4) ∧ f (k * 4) ≤ 5000) ∧ (0 ≤ f (k * 4 + 1) ∧ f (k * 4 + 1) ≤ 200) ∧ (0 ≤ cl n f k ∧ cl n f k ≤ 5400) ∧ ar n f k = f (k * 4 + 1) * (f (k * 4) + cl n f k) ∧ 0 ≤ ar n f k ∧ ar n f k ≤ 2080000) := Lib.hid fun h k hk => by
    obtain ⟨q0, q1, q2, q3⟩ := st_in (tv_iff.1 h) hk
    refine ⟨by omega, q1, cl_in (tv_iff.1 h) k, ?_, ar_in (tv_iff.1 h) k⟩
    unfold ar s
    simp only [if_pos hk, Nat.add_zero]
  have U0 : Hid (∀ j, C9f.sm (ar n f) (j + 1) = C9f.sm (ar n f) j + ar n f j) := Lib.hid fun j => rfl
  have Z0 : Hid (C9f.sm (ar n f) 0 = 0) := Lib.hid rfl
  clear hA
  generalize C9f.TwoAt (arX n f) (ctC n f) w = Q at HN HY ⊢
  generalize C9f.sm (ar n f) = SA at HY HI U0 Z0
  generalize cl n f = D at CF CE
  generalize ar n f = E at U0 CE
  generalize tv (StP n f) = r at C0 HN HY HI CF CE
  go_enter Tryd.func30, Tryd.ntmps30
  go_wp2_with fail
  refine C0.out.mono ?_
  rintro e w' ⟨rfl, rfl⟩
  cases r
  · have HZ := Lib.hid (HN.out rfl)
    go_wp2_with fail
    exact HZ.out
  obtain ⟨n12, hs0⟩ := HI.out rfl
  have HS0 := Lib.hid hs0
  have CFr := Lib.hid (CF.out rfl)
  have CEr := Lib.hid (CE.out rfl)
  have HYr := Lib.hid (HY.out rfl)
  clear HN HY HI CF CE C0 hs0
  go_wp2_with fail
  go_loopw [4, 5] (fun u i wr => ∃ (j : Nat), j ≤ n ∧ u = .int .i64 (SA j) ∧ i = .int .i64 (j : Int) ∧ Hid (Below w.heap.size w wr)) (fun _ i _ => n - (intOf i).toNat)
  case atStart => exact ⟨0, Nat.zero_le _, by rw [Z0.out], rfl, Lib.hid (Below.refl _ _)⟩
  case round =>
    obtain ⟨j, hj, rfl, rfl, HW⟩ := hrel
    have e0 : (0 : Int) ≤ (j : Int) := Int.natCast_nonneg _
    by_cases hlt : j < n
    · obtain ⟨b, off, rfl, hb, hc⟩ := (HA.out.below HW.out (Nat.le_refl _)) (by omega)
      obtain ⟨x0, x1, x2, x3⟩ := Str.cells_at hc hlt
      have e1 : (j : Int) < (n : Int) := by omega
      have hj1 : j + 1 ≤ n := by omega
      obtain ⟨q0, q1, q2, q3, q4⟩ := CEr.out j hlt
      have CJ := Lib.hid fun p : Beyond wr => CFr.out j hlt b (off + j * 4) p.to (bey_cell x0 p) (bey_cell x1 p) (bey_cell x2 p) (bey_cell x3 p)
      have a0 := HS0.out j hj
      have V0 := Lib.hid (U0.out j)
      rw [q3] at V0 q4
      clear hc q3
      have x0 := bey_cell x0
      have x1 := bey_cell x1
      clear x2 x3
      have t0 : IntKind.i64.wrap (SA j + f (j * 4 + 1) * (f (j * 4) + D j)) = SA j + f (j * 4 + 1) * (f (j * 4) + D j) := IntWalk.i64_in _ (by omega)
      have t1 : IntKind.i64.wrap (f (j * 4) + D j) = f (j * 4) + D j := IntWalk.i64_in _ (by omega)
      have t2 : IntKind.i64.wrap (f (j * 4 + 1) * (f (j * 4) + D j)) = f (j * 4 + 1) * (f (j * 4) + D j) := IntWalk.i64_in _ (by omega)
      generalize hA1 : SA (j + 1) = A1 at V0
      generalize SA j = u0 at *
      generalize f (j * 4) = g0 at *
      generalize f (j * 4 + 1) = g1 at *
      generalize D j = g2 at *
      clear q0 q1 q2 q4 a0
      go_wp2_with fail
      refine wp_region_below (by kernel_rfl) (by kernel_rfl) ?_
      repeat (go_big_quiet_step (first | (go_at_call 49; exact bey_of _ (CJ.out _))))
      refine wpQuiet_nil ?_
      rintro _ ⟨pq, rfl⟩
      have HQ := Lib.hid (below_then HW.out pq.h)
      generalize pq.to = wq at HQ ⊢
      clear x0 x1 CJ
      go_wp2_with fail
      go_roundw
      case rel => exact ⟨j + 1, hj1, by rw [hA1, V0.out], by go_num, HQ⟩
      case measure => simp [intOf]; omega
    · obtain rfl : j = n := by omega
      have e1 : ¬ (j : Int) < (j : Int) := by omega
      have HZ := Lib.hid (HYr.out wr HW.out)
      clear hj HYr CFr CEr
      go_wp2_with fail
      exact HZ.out
theorem impl_ar (A : Option Addr) (n c : Nat) (f : Nat → Int) (hn : n ≤ 1048576) (w : World) (hV : V3 w) (hA : Nums w w.heap.size A (n * 4) f) :
    Calls Tryd.prog 31 #[.slice A n c] w (C9f.TwoAt (arX n f) (ctC n f) w) := by
  unfold arX ctC
  by_cases hP : StP n f
  · rw [tv_yes hP]
    exact area_yes A n c f hP w hV hA
  · rw [tv_no hP]
    exact allow_no A n c f hn hP w hV hA
end Go.Proofs.YtpmmfalpcooenaaDoor.C9s
