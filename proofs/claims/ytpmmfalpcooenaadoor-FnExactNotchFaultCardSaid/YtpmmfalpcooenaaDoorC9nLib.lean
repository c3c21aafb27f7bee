/- NotchesOf: both functions. -/
import Derived.Test.YtpmmfalpcooenaaDoorC9fLib
import Derived.Test.YtpmmfalpcooenaaDoorOwLib
import Derived.Test.YtpmmfalpcooenaaDoorRisLib
import Derived.Test.YtpmmfalpcooenaaDoorFgLib
namespace Go.Proofs.YtpmmfalpcooenaaDoor.C9n
set_option linter.unusedVariables false
open Go.RowKit Ft Is Ge Qb Ly Stv Ec Er C9k Ow

theorem shares_any (A : Option Addr) (n c : Nat) (d : Nat → Int) (hn : n ≤ 1048576) (w : World) (hA : Nums w w.heap.size A n d) :
    Calls Tryd.prog 57 #[.slice A n c] w fun e w' => e = .returned (.bool (tv (PlP 1 999 n d))) ∧ Below w.heap.size w w' := by
  have C := Lib.hid ((Ris.spec_rises 1 999 A n c d hn w hA).mono fun _ _ t => tells_tv t)
  have H0 : Hid (10 < n → tv (PlP 1 999 n d) = false) := Lib.hid fun h => tv_no fun e => by have := e.1; omega
  have H1 : Hid (n ≤ 10 → tv (PlP 1 999 n d) = tv (Ris.Ri 1 999 n d)) := Lib.hid fun h => by
    by_cases q : Ris.Ri 1 999 n d
    · rw [tv_yes q, tv_yes ⟨h, q.2, q.1⟩]
    · rw [tv_no q, tv_no fun e => q ⟨e.2.2, e.2.1⟩]
  generalize tv (PlP 1 999 n d) = r at H0 H1 ⊢
  generalize tv (Ris.Ri 1 999 n d) = r1 at C H1
  clear hA
  by_cases h10 : 10 < n
  · have h10' : ¬ (n : Int) ≤ 10 := by omega
    have HF := Lib.hid (H0.out h10)
    go_enter Tryd.func57, Tryd.ntmps57
    go_wp2_with fail
    go_ret
    exact ⟨Ba.ret_bool HF.out.symm, Below.refl _ _⟩
  · have h10' : (n : Int) ≤ 10 := by omega
    have HF := Lib.hid (H1.out (by omega))
    go_enter Tryd.func57, Tryd.ntmps57
    go_wp2_with fail
    refine C.out.mono ?_
    rintro e w1 ⟨rfl, b1⟩
    go_wp2_with fail
    go_ret
    exact ⟨Ba.ret_bool HF.out.symm, b1⟩
/-- Whether a length and shares are right. -/
noncomputable def okN (len : Int) (n : Nat) (d : Nat → Int) : Bool := inB len 1 5000 && tv (PlP 1 999 n d)
noncomputable def ntM (len : Int) (n : Nat) (d : Nat → Int) : Nat := if okN len n d = true then n else 0
noncomputable def ntC (len : Int) (n : Nat) (d : Nat → Int) : Int := if okN len n d = true then 0 else 2
/-- A notch. -/
def ntD (len : Int) (d : Nat → Int) (i : Nat) : Int := Fg.fl (2 * (len * d i) + 1000) (2 * 1000)
theorem okn_in {len : Int} {n : Nat} {d : Nat → Int} (h : okN len n d = true) : n ≤ 10 ∧ (1 ≤ len ∧ len ≤ 5000) ∧ ∀ i, i < n → 1 ≤ d i ∧ d i ≤ 999 := by
  unfold okN at h
  simp only [Bool.and_eq_true] at h
  have h2 := tv_iff.1 h.2
  exact ⟨h2.1, Ba.in_of h.1, fun i hi => Ba.in_of (h2.2.2 i hi)⟩
theorem ntm_le (len : Int) (n : Nat) (d : Nat → Int) : ntM len n d ≤ 1048576 := by
  unfold ntM
  split
  · rename_i h; have := (okn_in h).1; omega
  · omega
theorem prod_in {a b x y : Int} (h1 : 0 ≤ a ∧ a ≤ x) (h2 : 0 ≤ b ∧ b ≤ y) : 0 ≤ a * b ∧ a * b ≤ x * y := ⟨Int.mul_nonneg h1.1 h2.1, Int.mul_le_mul h1.2 h2.2 h2.1 (by omega)⟩
set_option maxRecDepth 100000 in
set_option maxHeartbeats 2000000 in
theorem spec_nt (len : Int) (A : Option Addr) (n c : Nat) (d : Nat → Int) (hn : n ≤ 1048576) (w : World) (hA : Nums w w.heap.size A n d) :
    Calls Tryd.prog 32 #[.int .i64 len, .slice A n c] w (PairAt (ntM len n d) (ntD len d) (ntC len n d) w) := by
  have HA := Lib.hid hA
  have C0 := Lib.hid (C9f.length_any len w)
  have C1 := Lib.hid (shares_any A n c d hn w hA)
  have HN : Hid (okN len n d = false → ∀ W, Below w.heap.size w W → PairAt (ntM len n d) (ntD len d) (ntC len n d) w (.returned (.tuple #[.slice none 0 0, .int .i64 2])) W) := Lib.hid fun h W hb => by
    unfold ntM ntC; rw [h]; exact pair_no hb _
  have HY : Hid (okN len n d = true → ∀ v w1 w', w'.ownsRow w1.heap.size 2 1 v n (upto (ntD len d) n) → Below w.heap.size w w1 → Below w1.heap.size w1 w' → PairAt (ntM len n d) (ntD len d) (ntC len n d) w (.returned (.tuple #[v, .int .i64 0])) w') := Lib.hid fun h v w1 w' h1 h2 h3 => by
    unfold ntM ntC; rw [h]; exact pair_of_row h1 h2 h3
  have F0 : Hid (inB len 1 5000 = false → okN len n d = false) := Lib.hid fun h => by unfold okN; rw [h]; rfl
  have F1 : Hid (tv (PlP 1 999 n d) = false → okN len n d = false) := Lib.hid fun h => by unfold okN; rw [h]; simp
  have F2 : Hid (inB len 1 5000 = true → tv (PlP 1 999 n d) = true → okN len n d = true) := Lib.hid fun h1 h2 => by unfold okN; rw [h1, h2]; rfl
  have HI := Lib.hid (fun h => @okn_in len n d h)
  have CF : Hid (okN len n d = true → ∀ k, k < n → (0 ≤ len * d k ∧ len * d k ≤ 4995000) ∧ ∀ W, Calls Tryd.prog 58 #[.int .i64 (len * d k), .int .i64 1000] W fun e w' => e = .returned (.int .i64 (ntD len d k)) ∧ W = w') := Lib.hid fun h k hk => by
    obtain ⟨h1, h2, h3⟩ := okn_in h
    have h4 := h3 k hk
    have := prod_in (a := len) (b := d k) (x := 5000) (y := 999) ⟨by omega, by omega⟩ ⟨by omega, by omega⟩
    exact ⟨by omega, fun W => Fg.near_spec _ _ (by omega) (by omega) (by omega) (by omega) W⟩
  have HU : Hid (∀ j, upto (ntD len d) (j + 1) = upto (ntD len d) j ++ [.int .i64 (ntD len d j)]) := Lib.hid fun j => upto_snoc _ _
  obtain ⟨i0, hi0, hz0, hz1, hz2⟩ := info_parts info_int
  have HIn := Lib.hid (And.intro hi0 (And.intro hz0 (And.intro hz1 hz2)))
  have O0 := Lib.hid (fun W => row_zero W (ntD len d))
  clear hA hi0 hz0 hz1 hz2
  generalize PairAt (ntM len n d) (ntD len d) (ntC len n d) w = Q at HN HY ⊢
  generalize upto (ntD len d) = UP at HU HY O0
  generalize ntD len d = D at HU CF
  generalize okN len n d = r at HN HY F0 F1 F2 HI CF
  generalize inB len 1 5000 = r0 at C0 F0 F2
  generalize tv (PlP 1 999 n d) = r1 at C1 F1 F2
  go_enter Tryd.func32, Tryd.ntmps32
  go_wp2_with fail
  refine C0.out.mono ?_
  rintro e w' ⟨rfl, rfl⟩
  cases r0
  · have HZ := Lib.hid (HN.out (F0.out rfl) w (Below.refl _ _))
    go_wp2_with fail
    exact HZ.out
  go_wp2_with fail
  refine C1.out.mono ?_
  rintro e w1 ⟨rfl, b1⟩
  have HB1 := Lib.hid b1
  clear b1 C0 C1
  cases r1
  · have HZ := Lib.hid (HN.out (F1.out rfl) w1 HB1.out)
    go_wp2_with fail
    exact HZ.out
  have hr := F2.out (by first | rfl | trivial) (by first | rfl | trivial)
  obtain ⟨n10, l1, i3⟩ := HI.out hr
  have CFr := Lib.hid (CF.out hr)
  have HYr := Lib.hid (HY.out hr)
  clear HN HY F0 F1 F2 HI CF hr i3
  go_wp2_with fail
  have B0 := Lib.hid (below_box w1 (.cells #[] 2))
  have R0 := Lib.hid (O0.out w1)
  go_loopw [6, 7] (fun v i wr => ∃ (j : Nat) (u : Value), j ≤ n ∧ u = v ∧ i = .int .i64 (j : Int) ∧ Hid (Below w1.heap.size w1 wr) ∧ Hid (wr.ownsRow w1.heap.size 2 1 u j (UP j))) (fun _ i _ => n - (intOf i).toNat)
  case atStart => exact ⟨0, _, Nat.zero_le _, rfl, rfl, B0, R0⟩
  case round =>
    obtain ⟨j, v, hj, rfl, rfl, HW, HO⟩ := hrel
    have e0 : (0 : Int) ≤ (j : Int) := Int.natCast_nonneg _
    by_cases hlt : j < n
    · obtain ⟨b, off, rfl, hb, hc⟩ := (HA.out.below (below_then HB1.out HW.out) (Nat.le_refl _)) (by omega)
      have x0 : wr.cell? ⟨b, off + j, none⟩ = some (.int .i64 (d j)) := hc j hlt
      have e1 : (j : Int) < (n : Int) := by omega
      have hj1 : j + 1 ≤ n := by omega
      obtain ⟨⟨p1, p2⟩, CJ0⟩ := CFr.out j hlt
      have CJ := Lib.hid CJ0
      have HUj := Lib.hid (HU.out j)
      have hsz := HW.out.size
      generalize D j = dj at CJ HUj
      generalize d j = u at x0 p1 p2 CJ
      have t1 : IntKind.i64.wrap (len * u) = len * u := by rw [IntKind.wrap_i64]; omega
      clear hc hj CJ0
      go_wp2_with fail
      refine (CJ.out _).mono ?_
      rintro e w2 ⟨rfl, rfl⟩
      clear CJ x0
      go_wp2_with (at_builtin; refine wpList_append_own _ rfl _ _ 29 rfl w1.heap.size 2 i0 _ 1 8 Tryd.underlying29 HIn.out.1 HIn.out.2.1 HIn.out.2.2.1 HIn.out.2.2.2 rfl (by decide) _ _ _ rfl (HO.out.alloc _) ⟨wr.heap.size, 0, none⟩ 1 1 [.int .i64 dj] rfl rfl ?c1 ?c2 ?c3 ?c4 ?c5 ?_)
      case c1 => exact cell_new _ _ _
      case c2 => simp [Value.oneCell']
      case c3 => unfold maxLen; omega
      case c4 => omega
      case c5 => first | omega | (simp <;> omega)
      intro v' w6 hown2 hgrow _
      have HQ := Lib.hid ((HW.out.alloc hsz _).grown hgrow (by simp; omega) fun g hg => (HO.out.lt g hg).1)
      have HO6 : Hid (w6.ownsRow w1.heap.size 2 1 v' (j + 1) (UP (j + 1))) := Lib.hid (by rw [HUj.out]; exact hown2)
      clear hown2 hgrow
      go_wp2_with fail
      go_roundw
      case rel => exact ⟨j + 1, _, hj1, rfl, by go_num, HQ, HO6⟩
      case measure => simp [intOf]; omega
    · obtain rfl : j = n := by omega
      have e1 : ¬ (j : Int) < (j : Int) := by omega
      have HZ := Lib.hid (HYr.out v w1 wr HO.out HB1.out HW.out)
      clear hj HU HYr CFr
      go_wp2_with fail
      exact HZ.out
set_option maxRecDepth 100000 in
set_option maxHeartbeats 2000000 in
theorem impl_nt (len : Int) (A : Option Addr) (n c : Nat) (d : Nat → Int) (hn : n ≤ 1048576) (w : World) (hV : V4 w) (hA : Nums w w.heap.size A n d) :
    Calls Tryd.prog 34 #[.int .i64 len, .slice A n c] w (PairAt (ntM len n d) (ntD len d) (ntC len n d) w) := by
  have HA := Lib.hid hA
  have HBX := Lib.hid (below_box w (.cells #[.int .i64 len] 2))
  have C0 := Lib.hid (check_shares A n c d hn (some ⟨w.heap.size, 0, none⟩) 1 1 (fun i => [len].getD i 0) (by omega) (w.alloc (.cells #[.int .i64 len] 2)) ((hA.below HBX.out (Nat.le_refl _)).more HBX.out.size) (nums_new w [len] 2) (hV.cnt.below HBX.out) (hV.out.below HBX.out) (hV.ord.below HBX.out))
  rw [al_one] at C0
  have CC := Lib.hid (fun x hx W (hb : Below w.heap.size w W) => code_of 2 (inB len 1 5000 && tv (PlP 1 999 n d)) x hx W (hV.ety.below hb))
  have HN : Hid ((inB len 1 5000 && tv (PlP 1 999 n d)) = false → ∀ W, Below w.heap.size w W → PairAt (ntM len n d) (ntD len d) (ntC len n d) w (.returned (.tuple #[.slice none 0 0, .int .i64 2])) W) := Lib.hid fun h W hb => by
    unfold ntM ntC okN; rw [h]; exact pair_no hb _
  have HY : Hid ((inB len 1 5000 && tv (PlP 1 999 n d)) = true → ∀ v w1 w', w'.ownsRow w1.heap.size 2 1 v n (upto (ntD len d) n) → Below w.heap.size w w1 → Below w1.heap.size w1 w' → PairAt (ntM len n d) (ntD len d) (ntC len n d) w (.returned (.tuple #[v, .int .i64 0])) w') := Lib.hid fun h v w1 w' h1 h2 h3 => by
    unfold ntM ntC okN; rw [h]; exact pair_of_row h1 h2 h3
  have HI : Hid ((inB len 1 5000 && tv (PlP 1 999 n d)) = true → n ≤ 10) := Lib.hid fun h => (okn_in h).1
  have CF : Hid ((inB len 1 5000 && tv (PlP 1 999 n d)) = true → ∀ k, k < n → (0 ≤ len * d k ∧ len * d k ≤ 4995000) ∧ ∀ W, Calls Tryd.prog 60 #[.int .i64 (len * d k), .int .i64 1000] W fun e w' => e = .returned (.int .i64 (ntD len d k)) ∧ W = w') := Lib.hid fun h k hk => by
    obtain ⟨h1, h2, h3⟩ := okn_in h
    have h4 := h3 k hk
    have := prod_in (a := len) (b := d k) (x := 5000) (y := 999) ⟨by omega, by omega⟩ ⟨by omega, by omega⟩
    exact ⟨by omega, fun W => Fg.near_impl _ _ (by omega) (by omega) (by omega) (by omega) W⟩
  have HU : Hid (∀ j, upto (ntD len d) (j + 1) = upto (ntD len d) j ++ [.int .i64 (ntD len d j)]) := Lib.hid fun j => upto_snoc _ _
  obtain ⟨i0, hi0, hz0, hz1, hz2⟩ := info_parts info_int
  have HIn := Lib.hid (And.intro hi0 (And.intro hz0 (And.intro hz1 hz2)))
  have O0 := Lib.hid (fun W => row_start W n hn (ntD len d))
  have HMK := Lib.hid (make_row n hn)
  clear hA hV hi0 hz0 hz1 hz2
  generalize PairAt (ntM len n d) (ntD len d) (ntC len n d) w = Q at HN HY ⊢
  generalize upto (ntD len d) = UP at HU HY O0
  generalize ntD len d = D at HU CF
  generalize (inB len 1 5000 && tv (PlP 1 999 n d)) = r at C0 CC HN HY HI CF
  go_enter Tryd.func34, Tryd.ntmps34
  go_wp2_with fail
  refine C0.out.mono ?_
  rintro e w1 ⟨⟨x, rfl, hx⟩, b1⟩
  have HB1 := Lib.hid (below_then HBX.out b1)
  have C1 := Lib.hid (CC.out x hx w1 HB1.out)
  clear b1 hx C0 CC HBX
  cases r
  · have HNr := Lib.hid (HN.out rfl)
    clear HN HY HI CF
    simp only [Bool.false_eq_true, if_false] at C1
    go_wp2_with fail
    refine C1.out.mono ?_
    rintro e w2 ⟨rfl, b2⟩
    have HZ := Lib.hid (HNr.out w2 (below_then HB1.out b2))
    clear b2 C1 HNr
    go_wp2_with fail
    exact HZ.out
  simp only [if_true] at C1
  have n10 := HI.out rfl
  have CFr := Lib.hid (CF.out rfl)
  have HYr := Lib.hid (HY.out rfl)
  clear HN HY HI CF
  go_wp2_with fail
  refine C1.out.mono ?_
  rintro e w2 ⟨rfl, b2⟩
  have HB2 := Lib.hid (below_then HB1.out b2)
  clear b2 C1 HB1
  have hmk := HMK.out w2
  have B0 := Lib.hid (below_box w2 (.cells (Go.madeCells #[Value.int .i64 0] n) 2))
  have R0 := Lib.hid (O0.out w2)
  go_wp2_with fail
  clear hmk HMK O0
  go_loopw [7, 23] (fun v i wr => ∃ (j : Nat) (u : Value), j ≤ n ∧ u = v ∧ i = .int .i64 (j : Int) ∧ Hid (Below w2.heap.size w2 wr) ∧ Hid (wr.ownsRow w2.heap.size 2 1 u j (UP j))) (fun _ i _ => n - (intOf i).toNat)
  case atStart => exact ⟨0, _, Nat.zero_le _, rfl, rfl, B0, R0⟩
  case round =>
    obtain ⟨j, v, hj, rfl, rfl, HW, HO⟩ := hrel
    have e0 : (0 : Int) ≤ (j : Int) := Int.natCast_nonneg _
    by_cases hlt : j < n
    · obtain ⟨b, off, rfl, hb, hc⟩ := (HA.out.below (below_then HB2.out HW.out) (Nat.le_refl _)) (by omega)
      have x0 : wr.cell? ⟨b, off + j, none⟩ = some (.int .i64 (d j)) := hc j hlt
      have e1 : (j : Int) < (n : Int) := by omega
      have hj1 : j + 1 ≤ n := by omega
      obtain ⟨⟨p1, p2⟩, CJ0⟩ := CFr.out j hlt
      have CJ := Lib.hid CJ0
      have HUj := Lib.hid (HU.out j)
      have hsz := HW.out.size
      generalize D j = dj at CJ HUj
      generalize d j = u at x0 p1 p2 CJ
      have t1 : IntKind.i64.wrap (len * u) = len * u := by rw [IntKind.wrap_i64]; omega
      clear hc hj CJ0
      go_wp2_with fail
      refine (CJ.out _).mono ?_
      rintro e w3 ⟨rfl, rfl⟩
      clear CJ x0
      go_wp2_with (at_builtin; refine wpList_append_own _ rfl _ _ 29 rfl w2.heap.size 2 i0 _ 1 8 Tryd.underlying29 HIn.out.1 HIn.out.2.1 HIn.out.2.2.1 HIn.out.2.2.2 rfl (by decide) _ _ _ rfl (HO.out.alloc _) ⟨wr.heap.size, 0, none⟩ 1 1 [.int .i64 dj] rfl rfl ?c1 ?c2 ?c3 ?c4 ?c5 ?_)
      case c1 => exact cell_new _ _ _
      case c2 => simp [Value.oneCell']
      case c3 => unfold maxLen; omega
      case c4 => omega
      case c5 => first | omega | (simp <;> omega)
      intro v' w6 hown2 hgrow _
      have HQ := Lib.hid ((HW.out.alloc hsz _).grown hgrow (by simp; omega) fun g hg => (HO.out.lt g hg).1)
      have HO6 : Hid (w6.ownsRow w2.heap.size 2 1 v' (j + 1) (UP (j + 1))) := Lib.hid (by rw [HUj.out]; exact hown2)
      clear hown2 hgrow
      go_wp2_with fail
      go_roundw
      case rel => exact ⟨j + 1, _, hj1, rfl, by go_num, HQ, HO6⟩
      case measure => simp [intOf]; omega
    · obtain rfl : j = n := by omega
      have e1 : ¬ (j : Int) < (j : Int) := by omega
      have HZ := Lib.hid (HYr.out v w2 wr HO.out HB2.out HW.out)
      clear hj HU HYr CFr
      go_wp2_with fail
      exact HZ.out
end Go.Proofs.YtpmmfalpcooenaaDoor.C9n
