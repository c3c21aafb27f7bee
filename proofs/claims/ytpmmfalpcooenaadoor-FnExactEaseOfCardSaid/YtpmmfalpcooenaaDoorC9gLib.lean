/- EaseOf: both functions. -/
import Derived.Test.YtpmmfalpcooenaaDoorC9eLib
namespace Go.Proofs.YtpmmfalpcooenaaDoor.C9g
set_option linter.unusedVariables false
open Go.RowKit Ft Is Ge Qb Ly Stv Ec Er C9k Ow C9e

theorem es_in {a b : Int} {n : Nat} {d : Nat → Int} (h : okE a b n d = true) (k : Nat) : -1000000000000000001 ≤ es a b n d k ∧ es a b n d k ≤ 1000000000000000000 := by
  obtain ⟨h1, h2, h3, h4, h5⟩ := oke_in h
  have h6 := di_in h2 h3
  cases k with
  | zero => simp [es]
  | succ k =>
    have h7 := en_in h (k + 1)
    have := C9n.prod_in (a := di a b) (b := en n d (k + 1)) (x := 4999) (y := 1000) h6 h7
    exact Shr.fl_bd _ (by omega) (by omega)
set_option maxRecDepth 100000 in
set_option maxHeartbeats 2000000 in
theorem spec_es (a b : Int) (A : Option Addr) (n c : Nat) (d : Nat → Int) (hn : n ≤ 1048576) (w : World) (hA : Nums w w.heap.size A n d) :
    Calls Tryd.prog 37 #[.int .i64 a, .int .i64 b, .slice A n c] w (PairAt (esM a b n d) (esD a b n d) (esC a b n d) w) := by
  have HA := Lib.hid hA
  have C0 := Lib.hid (C9f.length_any a w)
  have C1 := Lib.hid (C9f.length_any b w)
  have C2 := Lib.hid (C9n.shares_any A n c d hn w hA)
  have HN : Hid (okE a b n d = false → ∀ W, Below w.heap.size w W → PairAt (esM a b n d) (esD a b n d) (esC a b n d) w (.returned (.tuple #[.slice none 0 0, .int .i64 2])) W) := Lib.hid fun h W hb => by
    unfold esM esC; rw [h]; exact pair_no hb _
  have HY : Hid (okE a b n d = true → ∀ v w1 w', w'.ownsRow w1.heap.size 2 1 v (n + 1) (upto (esD a b n d) (n + 1)) → Below w.heap.size w w1 → Below w1.heap.size w1 w' → PairAt (esM a b n d) (esD a b n d) (esC a b n d) w (.returned (.tuple #[v, .int .i64 0])) w') := Lib.hid fun h v w1 w' h1 h2 h3 => by
    unfold esM esC; rw [h]; exact pair_of_row h1 h2 h3
  have F0 : Hid (inB a 1 5000 = false → okE a b n d = false) := Lib.hid fun h => by unfold okE; rw [h]; rfl
  have F1 : Hid (inB b 1 5000 = false → okE a b n d = false) := Lib.hid fun h => by unfold okE; rw [h]; simp
  have F2 : Hid (tv (PlP 1 999 n d) = false → okE a b n d = false) := Lib.hid fun h => by unfold okE; rw [h]; simp
  have F3 : Hid (inB a 1 5000 = true → inB b 1 5000 = true → tv (PlP 1 999 n d) = true → okE a b n d = true) := Lib.hid fun h1 h2 h3 => by unfold okE; rw [h1, h2, h3]; rfl
  have HI : Hid (okE a b n d = true → n ≤ 10 ∧ (1 ≤ a ∧ a ≤ 5000) ∧ (1 ≤ b ∧ b ≤ 5000)) := Lib.hid fun h => ⟨(oke_in h).1, (oke_in h).2.1, (oke_in h).2.2.1⟩
  have CS : Hid (okE a b n d = true → ∀ W, Calls Tryd.prog 62 #[.int .i64 (a - b)] W fun e w' => e = .returned (.int .i64 (di a b)) ∧ W = w') := Lib.hid fun h W => size_any a b (oke_in h).2.1 (oke_in h).2.2.1 W
  have HES : Hid (∀ k, k < n → d k = en n d (k + 1)) := Lib.hid fun k hk => by simp [en, hk]
  have HEL : Hid (en n d (n + 1) = 1000) := Lib.hid (en_last n d)
  have HEB : Hid (okE a b n d = true → ∀ k, -1000000000000000001 ≤ es a b n d k ∧ es a b n d k ≤ 1000000000000000000) := Lib.hid fun h => es_in h
  have HE0 : Hid (es a b n d 0 = 0) := Lib.hid rfl
  have CF : Hid (okE a b n d = true → ∀ k, (0 ≤ di a b * en n d (k + 1) ∧ di a b * en n d (k + 1) ≤ 4999000) ∧ ∀ W, Calls Tryd.prog 58 #[.int .i64 (di a b * en n d (k + 1)), .int .i64 1000] W fun e w' => e = .returned (.int .i64 (es a b n d (k + 1))) ∧ W = w') := Lib.hid fun h k => by
    have h6 := di_in (oke_in h).2.1 (oke_in h).2.2.1
    have h7 := en_in h (k + 1)
    have := C9n.prod_in (a := di a b) (b := en n d (k + 1)) (x := 4999) (y := 1000) h6 h7
    exact ⟨by omega, fun W => Fg.near_spec _ _ (by omega) (by omega) (by omega) (by omega) W⟩
  have HU : Hid (∀ j, upto (esD a b n d) (j + 1) = upto (esD a b n d) j ++ [.int .i64 (es a b n d (j + 1) - es a b n d j)]) := Lib.hid fun j => upto_snoc _ _
  obtain ⟨i0, hi0, hz0, hz1, hz2⟩ := info_parts info_int
  have HIn := Lib.hid (And.intro hi0 (And.intro hz0 (And.intro hz1 hz2)))
  have O0 := Lib.hid (fun W => row_zero W (esD a b n d))
  clear hA hi0 hz0 hz1 hz2
  generalize PairAt (esM a b n d) (esD a b n d) (esC a b n d) w = Q at HN HY ⊢
  generalize upto (esD a b n d) = UP at HU HY O0
  generalize es a b n d = E at HU CF HEB HE0
  generalize en n d = N at HES HEL CF
  generalize di a b = Dd at CF CS
  generalize okE a b n d = r at HN HY F0 F1 F2 F3 HI CF HEB CS
  generalize inB a 1 5000 = r0 at C0 F0 F3
  generalize inB b 1 5000 = r1 at C1 F1 F3
  generalize tv (PlP 1 999 n d) = r2 at C2 F2 F3
  go_enter Tryd.func37, Tryd.ntmps37
  go_wp2_with fail
  refine C0.out.mono ?_
  rintro e w' ⟨rfl, rfl⟩
  cases r0
  · have HZ := Lib.hid (HN.out (F0.out rfl) w (Below.refl _ _))
    go_wp2_with fail
    exact HZ.out
  go_wp2_with fail
  refine C1.out.mono ?_
  rintro e w' ⟨rfl, rfl⟩
  cases r1
  · have HZ := Lib.hid (HN.out (F1.out rfl) w (Below.refl _ _))
    go_wp2_with fail
    exact HZ.out
  go_wp2_with fail
  refine C2.out.mono ?_
  rintro e w1 ⟨rfl, b1⟩
  have HB1 := Lib.hid b1
  clear b1 C0 C1 C2
  cases r2
  · have HZ := Lib.hid (HN.out (F2.out rfl) w1 HB1.out)
    go_wp2_with fail
    exact HZ.out
  have hr := F3.out (by first | rfl | trivial) (by first | rfl | trivial) (by first | rfl | trivial)
  obtain ⟨n10, l1, l2⟩ := HI.out hr
  have CFr := Lib.hid (CF.out hr)
  have HYr := Lib.hid (HY.out hr)
  have HEBr := Lib.hid (HEB.out hr)
  have CD := Lib.hid (CS.out hr)
  clear HN HY F0 F1 F2 F3 HI CF hr HEB CS
  go_wp2_with fail
  have B0 := Lib.hid (below_box w1 (.cells #[] 2))
  have R0 := Lib.hid (O0.out w1)
  go_loopw [8, 9, 10] (fun v dn i wr => ∃ (j : Nat) (u : Value), j ≤ n + 1 ∧ u = v ∧ i = .int .i64 (j : Int) ∧ dn = .int .i64 (E j) ∧ Hid (Below w1.heap.size w1 wr) ∧ Hid (wr.ownsRow w1.heap.size 2 1 u j (UP j))) (fun _ _ i _ => n + 1 - (intOf i).toNat)
  case atStart => exact ⟨0, _, Nat.zero_le _, rfl, rfl, by rw [HE0.out], B0, R0⟩
  case round =>
    obtain ⟨j, v, hj, rfl, rfl, rfl, HW, HO⟩ := hrel
    have e0 : (0 : Int) ≤ (j : Int) := Int.natCast_nonneg _
    have hsz := HW.out.size
    have HUj := Lib.hid (HU.out j)
    obtain ⟨z1a, z1b⟩ := HEBr.out j
    obtain ⟨z2a, z2b⟩ := HEBr.out (j + 1)
    obtain ⟨⟨p1, p2⟩, CJ0⟩ := CFr.out j
    have CJ := Lib.hid CJ0
    clear CJ0
    by_cases hlt : j < n
    · obtain ⟨bb, off, rfl, hb, hc⟩ := (HA.out.below (below_then HB1.out HW.out) (Nat.le_refl _)) (by omega)
      have x0 : wr.cell? ⟨bb, off + j, none⟩ = some (.int .i64 (N (j + 1))) := (hc j hlt).trans (by rw [HES.out j hlt])
      have e1 : (j : Int) < (n : Int) := by omega
      have e2 : (j : Int) ≤ (n : Int) := by omega
      have hj1 : j + 1 ≤ n + 1 := by omega
      generalize N (j + 1) = y at x0 p1 p2 CJ
      generalize hy2 : E (j + 1) = z2 at HUj z2a z2b CJ
      generalize E j = z1 at *
      clear hc hj CFr HEBr
      skip
      have t1 : IntKind.i64.wrap (a - b) = a - b := by rw [IntKind.wrap_i64]; omega
      have t2 : IntKind.i64.wrap (Dd * y) = Dd * y := by rw [IntKind.wrap_i64]; omega
      have t3 : IntKind.i64.wrap (z2 - z1) = z2 - z1 := by rw [IntKind.wrap_i64]; omega
      go_wp2_with fail
      refine (CD.out _).mono ?_
      rintro e w3 ⟨rfl, rfl⟩
      go_wp2_with fail
      refine (CJ.out _).mono ?_
      rintro e w3 ⟨rfl, rfl⟩
      go_wp2_with (at_builtin; refine wpList_append_own _ rfl _ _ 29 rfl w1.heap.size 2 i0 _ 1 8 Tryd.underlying29 HIn.out.1 HIn.out.2.1 HIn.out.2.2.1 HIn.out.2.2.2 rfl (by decide) _ _ _ rfl (HO.out.alloc _) ⟨wr.heap.size, 0, none⟩ 1 1 [.int .i64 (z2 - z1)] rfl rfl ?c1 ?c2 ?c3 ?c4 ?c5 ?_)
      (try case c1 => exact cell_new _ _ _)
      case c2 => simp [Value.oneCell']
      case c3 => unfold maxLen; omega
      case c4 => omega
      case c5 => first | omega | (simp <;> omega)
      intro v' w6 hown2 hgrow _
      have HQ := Lib.hid ((HW.out.alloc hsz _).grown hgrow (by simp; omega) fun g hg => (HO.out.lt g hg).1)
      have HO6 : Hid (w6.ownsRow w1.heap.size 2 1 v' (j + 1) (UP (j + 1))) := Lib.hid (by rw [HUj.out]; exact hown2)
      clear hown2 hgrow
      go_wp2_with fail
      go_roundw
      case rel => exact ⟨j + 1, _, hj1, rfl, by go_num, by rw [hy2], HQ, HO6⟩
      case measure => simp [intOf]; omega
    · by_cases hjn : j = n
      · have hjn2 : n = j := hjn.symm
        have e1 : ¬ (j : Int) < (n : Int) := by omega
        have e2 : (j : Int) ≤ (n : Int) := by omega
        have hj1 : j + 1 ≤ n + 1 := by omega
        have hy1 : N (j + 1) = 1000 := by rw [hjn]; exact HEL.out
        rw [hy1] at p1 p2 CJ
        obtain ⟨y, hyv⟩ : ∃ y : Int, y = 1000 := ⟨_, rfl⟩
        generalize hy2 : E (j + 1) = z2 at HUj z2a z2b CJ
        generalize E j = z1 at *
        clear hj CFr HEBr hjn hjn2 hy1
        subst hyv
        skip
        have t1 : IntKind.i64.wrap (a - b) = a - b := by rw [IntKind.wrap_i64]; omega
        have t2 : IntKind.i64.wrap (Dd * 1000) = Dd * 1000 := by rw [IntKind.wrap_i64]; omega
        have t3 : IntKind.i64.wrap (z2 - z1) = z2 - z1 := by rw [IntKind.wrap_i64]; omega
        go_wp2_with fail
        refine (CD.out _).mono ?_
        rintro e w3 ⟨rfl, rfl⟩
        go_wp2_with fail
        refine (CJ.out _).mono ?_
        rintro e w3 ⟨rfl, rfl⟩
        go_wp2_with (at_builtin; refine wpList_append_own _ rfl _ _ 29 rfl w1.heap.size 2 i0 _ 1 8 Tryd.underlying29 HIn.out.1 HIn.out.2.1 HIn.out.2.2.1 HIn.out.2.2.2 rfl (by decide) _ _ _ rfl (HO.out.alloc _) ⟨wr.heap.size, 0, none⟩ 1 1 [.int .i64 (z2 - z1)] rfl rfl ?d1 ?d2 ?d3 ?d4 ?d5 ?_)
        (try case d1 => exact cell_new _ _ _)
        case d2 => simp [Value.oneCell']
        case d3 => unfold maxLen; omega
        case d4 => omega
        case d5 => first | omega | (simp <;> omega)
        intro v' w6 hown2 hgrow _
        have HQ := Lib.hid ((HW.out.alloc hsz _).grown hgrow (by simp; omega) fun g hg => (HO.out.lt g hg).1)
        have HO6 : Hid (w6.ownsRow w1.heap.size 2 1 v' (j + 1) (UP (j + 1))) := Lib.hid (by rw [HUj.out]; exact hown2)
        clear hown2 hgrow
        go_wp2_with fail
        go_roundw
        case rel => exact ⟨j + 1, _, hj1, rfl, by go_num, by rw [hy2], HQ, HO6⟩
        case measure => simp [intOf]; omega
      · have hjn1 : j = n + 1 := by omega
        subst hjn1
        have e2 : ¬ ((n + 1 : Nat) : Int) ≤ (n : Int) := by omega
        have HZ := Lib.hid (HYr.out v w1 wr HO.out HB1.out HW.out)
        clear hj HU HYr CFr
        go_wp2_with fail
        exact HZ.out
set_option maxRecDepth 100000 in
set_option maxHeartbeats 2000000 in
theorem impl_es (a b : Int) (A : Option Addr) (n c : Nat) (d : Nat → Int) (hn : n ≤ 1048576) (w : World) (hV : V4 w) (hA : Nums w w.heap.size A n d) :
    Calls Tryd.prog 38 #[.int .i64 a, .int .i64 b, .slice A n c] w (PairAt (esM a b n d) (esD a b n d) (esC a b n d) w) := by
  have HA := Lib.hid hA
  have HBX := Lib.hid (below_box w (.cells #[.int .i64 a, .int .i64 b] 2))
  have C0 := Lib.hid (check_shares A n c d hn (some ⟨w.heap.size, 0, none⟩) 2 2 (fun i => [a, b].getD i 0) (by omega) (w.alloc (.cells #[.int .i64 a, .int .i64 b] 2)) ((hA.below HBX.out (Nat.le_refl _)).more HBX.out.size) (nums_new w [a, b] 2) (hV.cnt.below HBX.out) (hV.out.below HBX.out) (hV.ord.below HBX.out))
  rw [al_two, show ((inB a 1 5000 && inB b 1 5000) && tv (PlP 1 999 n d)) = okE a b n d from rfl] at C0
  have CC := Lib.hid (fun x hx W (hb : Below w.heap.size w W) => code_of 2 (okE a b n d) x hx W (hV.ety.below hb))
  have HN : Hid (okE a b n d = false → ∀ W, Below w.heap.size w W → PairAt (esM a b n d) (esD a b n d) (esC a b n d) w (.returned (.tuple #[.slice none 0 0, .int .i64 2])) W) := Lib.hid fun h W hb => by
    unfold esM esC; rw [h]; exact pair_no hb _
  have HY : Hid (okE a b n d = true → ∀ w1 A' cap w', Own w' w1.heap.size A' (n + 1) (esD a b n d) → Below w.heap.size w w1 → Below w1.heap.size w1 w' → PairAt (esM a b n d) (esD a b n d) (esC a b n d) w (.returned (.tuple #[.slice A' (n + 1) cap, .int .i64 0])) w') := Lib.hid fun h w1 A' cap w' h1 h2 h3 => by
    unfold esM esC; rw [h]; exact ⟨A', cap, rfl, Lib.hid (Bw.own_later h1 h2.size), below_then h2 h3⟩
  have C2 : Hid (okE a b n d = true → ∀ W, Below w.heap.size w W → Calls Tryd.prog 67 #[.slice A n c] W (OneAt (n + 1) (pd n d) W)) := Lib.hid fun h W hb => parts_any a b A n c d h W ((hA.below hb (Nat.le_refl _)).more hb.size)
  have C3 : Hid (okE a b n d = true → ∀ W, Calls Tryd.prog 65 #[.int .i64 a, .int .i64 b] W fun e w' => e = .returned (.int .i64 (di a b)) ∧ W = w') := Lib.hid fun h W => dist_any a b (oke_in h).2.1 (oke_in h).2.2.1 W
  have C4 : Hid (okE a b n d = true → ∀ A' cap W, Nums W W.heap.size A' (n + 1) (pd n d) → Calls Tryd.prog 66 #[.slice A' (n + 1) cap, .int .i64 (di a b)] W (OneAt (n + 1) (esD a b n d) W)) := Lib.hid fun h A' cap W hh => by
    rw [← gs_es]; exact Shr.impl_shares A' (n + 1) cap (pd n d) (di a b) (sh_ok h) W hh
  clear hA hV
  unfold OneAt at C2 C4
  generalize PairAt (esM a b n d) (esD a b n d) (esC a b n d) w = Q at HN HY ⊢
  generalize esD a b n d = D at HY C4
  generalize pd n d = P at C2 C4
  generalize di a b = Dd at C3 C4
  generalize okE a b n d = r at C0 CC HN HY C2 C3 C4
  go_enter Tryd.func38, Tryd.ntmps38
  go_wp2_with fail
  refine C0.out.mono ?_
  rintro e w1 ⟨⟨x, rfl, hx⟩, b1⟩
  have HB1 := Lib.hid (below_then HBX.out b1)
  have C1 := Lib.hid (CC.out x hx w1 HB1.out)
  clear b1 hx C0 CC HBX
  cases r
  · have HNr := Lib.hid (HN.out rfl)
    clear HN HY C2 C3 C4
    simp only [Bool.false_eq_true, if_false] at C1
    go_wp2_with fail
    refine C1.out.mono ?_
    rintro e w2 ⟨rfl, b2⟩
    have HZ := Lib.hid (HNr.out w2 (below_then HB1.out b2))
    clear b2 C1 HNr
    go_wp2_with fail
    exact HZ.out
  simp only [if_true] at C1
  have HYr := Lib.hid (HY.out rfl)
  have C2r := Lib.hid (C2.out rfl)
  have C3r := Lib.hid (C3.out rfl)
  have C4r := Lib.hid (C4.out rfl)
  clear HN HY C2 C3 C4
  go_wp2_with fail
  refine C1.out.mono ?_
  rintro e w2 ⟨rfl, b2⟩
  have HB2 := Lib.hid (below_then HB1.out b2)
  have CP := Lib.hid (C2r.out w2 HB2.out)
  clear b2 C1 HB1 C2r
  go_wp2_with fail
  refine CP.out.mono ?_
  rintro e w3 ⟨A3, cap3, rfl, HO3, b3⟩
  have HB3 := Lib.hid (below_then HB2.out b3)
  have C4s := Lib.hid (C4r.out A3 cap3 w3 HO3.out.nums)
  clear CP b3 HO3 C4r HB2
  go_wp2_with fail
  refine (C3r.out _).mono ?_
  rintro e w4 ⟨rfl, rfl⟩
  go_wp2_with fail
  refine C4s.out.mono ?_
  rintro e w5 ⟨A5, cap5, rfl, HO5, b5⟩
  have HZ := Lib.hid (HYr.out w3 A5 cap5 w5 HO5.out HB3.out b5)
  clear b5 HO5 HYr C4s
  go_wp2_with fail
  exact HZ.out
end Go.Proofs.YtpmmfalpcooenaaDoor.C9g
