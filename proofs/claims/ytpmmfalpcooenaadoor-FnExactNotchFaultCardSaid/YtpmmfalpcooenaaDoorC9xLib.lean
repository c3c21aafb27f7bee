/- NotchFault: both functions. -/
import Derived.Test.YtpmmfalpcooenaaDoorC9nLib
import Derived.Test.YtpmmfalpcooenaaDoorFstLib
namespace Go.Proofs.YtpmmfalpcooenaaDoor.C9x
set_option linter.unusedVariables false
open Go.RowKit Ft Is Ge Qb Ly Stv Ec Er C9k Ow
open C9f (TwoAt)

/-- The distance of two numbers. -/
def dx (x y : Int) : Int := if x - y < 0 then y - x else x - y
theorem dist_g (x y : Int) (hx : 0 ≤ x ∧ x ≤ 100000000) (hy : 0 ≤ y ∧ y ≤ 100000000) (w : World) : Calls Tryd.prog 65 #[.int .i64 x, .int .i64 y] w fun e w' => e = .returned (.int .i64 (dx x y)) ∧ w = w' := by
  have R : x < y ∨ y < x ∨ x = y := by omega
  rcases R with h | h | h
  · have e : dx x y = y - x := by unfold dx; split <;> omega
    rw [e]
    go_enter Tryd.func65, Tryd.ntmps65
    go_wp2
    go_ret
    exact ⟨by first | rfl | (congr 2; rw [IntKind.wrap_i64]; omega), rfl⟩
  · have e : dx x y = x - y := by unfold dx; split <;> omega
    rw [e]
    go_enter Tryd.func65, Tryd.ntmps65
    go_wp2
    go_ret
    exact ⟨by first | rfl | (congr 2; rw [IntKind.wrap_i64]; omega), rfl⟩
  · subst h
    have e : dx x x = 0 := by unfold dx; split <;> omega
    rw [e]
    go_enter Tryd.func65, Tryd.ntmps65
    go_wp2
    go_ret
    exact ⟨rfl, rfl⟩
theorem size_g (x y : Int) (hx : 0 ≤ x ∧ x ≤ 100000000) (hy : 0 ≤ y ∧ y ≤ 100000000) (w : World) : Calls Tryd.prog 62 #[.int .i64 (x - y)] w fun e w' => e = .returned (.int .i64 (dx x y)) ∧ w = w' := by
  by_cases h : x - y < 0
  · have e : dx x y = -(x - y) := by unfold dx; rw [if_pos h]; omega
    rw [e]
    go_enter Tryd.func62, Tryd.ntmps62
    go_wp2
    go_ret
    exact ⟨by first | rfl | (congr 2; rw [IntKind.wrap_i64]; omega), rfl⟩
  · have e : dx x y = x - y := by unfold dx; rw [if_neg h]
    rw [e]
    go_enter Tryd.func62, Tryd.ntmps62
    go_wp2
    go_ret
    exact ⟨by first | rfl | (congr 2; rw [IntKind.wrap_i64]; omega), rfl⟩
theorem min_any (a b : Int) (w : World) : Calls Tryd.prog 63 #[.int .i64 a, .int .i64 b] w fun e w' => e = .returned (.int .i64 (min a b)) ∧ w = w' := by
  by_cases h : a < b
  · have e : min a b = a := by omega
    rw [e]
    go_enter Tryd.func63, Tryd.ntmps63
    go_wp2
    go_ret
    exact ⟨rfl, rfl⟩
  · have e : min a b = b := by omega
    rw [e]
    go_enter Tryd.func63, Tryd.ntmps63
    go_wp2
    go_ret
    exact ⟨rfl, rfl⟩
noncomputable def okX (a b most : Int) (n : Nat) (d : Nat → Int) (m : Nat) (g : Nat → Int) : Bool := (inB a 1 5000 && inB b 1 5000) && tv (PlP 0 a n d) && tv (PlP 0 b m g) && inB most 0 5000
/-- Two notches that do not meet. -/
def bad (a b most : Int) (d g : Nat → Int) (i : Nat) : Bool := decide (most * min a b < dx (d i * b) (g i * a))
noncomputable def nfC (a b most : Int) (n : Nat) (d : Nat → Int) (m : Nat) (g : Nat → Int) : Int := if okX a b most n d m g = true then (if n = m then 0 else 9) else 2
noncomputable def nfX (a b most : Int) (n : Nat) (d : Nat → Int) (m : Nat) (g : Nat → Int) : Int := if okX a b most n d m g = true then (if n = m then Fst.ix (bad a b most d g) n (-1) else 0) else 0
theorem okx_in {a b most : Int} {n m : Nat} {d g : Nat → Int} (h : okX a b most n d m g = true) : (1 ≤ a ∧ a ≤ 5000) ∧ (1 ≤ b ∧ b ≤ 5000) ∧ (0 ≤ most ∧ most ≤ 5000) ∧ (n ≤ 10 ∧ ∀ i, i < n → 0 ≤ d i ∧ d i ≤ a) ∧ (m ≤ 10 ∧ ∀ i, i < m → 0 ≤ g i ∧ g i ≤ b) := by
  unfold okX at h
  simp only [Bool.and_eq_true] at h
  obtain ⟨⟨⟨⟨h1, h2⟩, h3⟩, h4⟩, h5⟩ := h
  have q3 := tv_iff.1 h3
  have q4 := tv_iff.1 h4
  exact ⟨Ba.in_of h1, Ba.in_of h2, Ba.in_of h5, ⟨q3.1, fun i hi => Ba.in_of (q3.2.2 i hi)⟩, q4.1, fun i hi => Ba.in_of (q4.2.2 i hi)⟩
theorem prods {a b most : Int} {n m : Nat} {d g : Nat → Int} (h : okX a b most n d m g = true) (hnm : n = m) {i : Nat} (hi : i < n) : (0 ≤ d i * b ∧ d i * b ≤ 25000000) ∧ (0 ≤ g i * a ∧ g i * a ≤ 25000000) ∧ (0 ≤ most * min a b ∧ most * min a b ≤ 25000000) := by
  obtain ⟨h1, h2, h3, h4, h5⟩ := okx_in h
  have d1 := h4.2 i hi
  have g1 := h5.2 i (by omega)
  have p1 := C9n.prod_in (a := d i) (b := b) (x := 5000) (y := 5000) ⟨by omega, by omega⟩ ⟨by omega, by omega⟩
  have p2 := C9n.prod_in (a := g i) (b := a) (x := 5000) (y := 5000) ⟨by omega, by omega⟩ ⟨by omega, by omega⟩
  have p3 := C9n.prod_in (a := most) (b := min a b) (x := 5000) (y := 5000) ⟨by omega, by omega⟩ ⟨by omega, by omega⟩
  omega
theorem pl_of_ri {lo hi : Int} {n : Nat} {d : Nat → Int} (hn : n ≤ 10) : tv (PlP lo hi n d) = tv (Ris.Ri lo hi n d) := by
  by_cases q : Ris.Ri lo hi n d
  · rw [tv_yes q, tv_yes ⟨hn, q.2, q.1⟩]
  · rw [tv_no q, tv_no fun e => q ⟨e.2.2, e.2.1⟩]
theorem pl_no {lo hi : Int} {n : Nat} {d : Nat → Int} (hn : 10 < n) : tv (PlP lo hi n d) = false := tv_no fun e => by have := e.1; omega
theorem pl_ri_no {lo hi : Int} {n : Nat} {d : Nat → Int} (h : tv (Ris.Ri lo hi n d) = false) : tv (PlP lo hi n d) = false := tv_no fun e => by rw [tv_yes (P := Ris.Ri lo hi n d) ⟨e.2.2, e.2.1⟩] at h; cases h
set_option maxRecDepth 100000 in
set_option maxHeartbeats 2000000 in
theorem spec_nf (a b most : Int) (A : Option Addr) (n c : Nat) (d : Nat → Int) (hn : n ≤ 1048576) (L : Option Addr) (m lc : Nat) (g : Nat → Int) (hm : m ≤ 1048576) (w : World) (hA : Nums w w.heap.size A n d) (hL : Nums w w.heap.size L m g) :
    Calls Tryd.prog 35 #[.int .i64 a, .int .i64 b, .slice A n c, .slice L m lc, .int .i64 most] w (TwoAt (nfX a b most n d m g) (nfC a b most n d m g) w) := by
  have HA := Lib.hid hA
  have HL := Lib.hid hL
  have C0 := Lib.hid (C9f.length_any a w)
  have C1 := Lib.hid (C9f.length_any b w)
  have C2 := Lib.hid ((Ris.spec_rises 0 a A n c d hn w hA).mono fun _ _ t => tells_tv t)
  have C3 := Lib.hid (fun W (hb : Below w.heap.size w W) => (Ris.spec_rises 0 b L m lc g hm W ((hL.below hb (Nat.le_refl _)).more hb.size)).mono fun _ _ t => tells_tv t)
  have C4 := Lib.hid (fun w => Stv.in_any most 0 5000 w)
  have CM := Lib.hid (fun w => min_any a b w)
  have HN : Hid (okX a b most n d m g = false → ∀ W, Below w.heap.size w W → TwoAt (nfX a b most n d m g) (nfC a b most n d m g) w (.returned (.tuple #[.int .i64 0, .int .i64 2])) W) := Lib.hid fun h W hb => by
    unfold nfX nfC; rw [h]; exact ⟨rfl, hb⟩
  have HC : Hid (okX a b most n d m g = true → n ≠ m → ∀ W, Below w.heap.size w W → TwoAt (nfX a b most n d m g) (nfC a b most n d m g) w (.returned (.tuple #[.int .i64 0, .int .i64 9])) W) := Lib.hid fun h q W hb => by
    unfold nfX nfC; rw [h]; simp only [if_true, if_neg q]; exact ⟨rfl, hb⟩
  have HY : Hid (okX a b most n d m g = true → n = m → ∀ k, k < n → (∀ j, j < k → bad a b most d g j = false) → bad a b most d g k = true → ∀ W, Below w.heap.size w W → TwoAt (nfX a b most n d m g) (nfC a b most n d m g) w (.returned (.tuple #[.int .i64 (k : Int), .int .i64 0])) W) := Lib.hid fun h q k hk h1 h2 W hb => by
    unfold nfX nfC; rw [h]; simp only [if_true, if_pos q, Fst.ix_at h1 h2 hk]; exact ⟨rfl, hb⟩
  have HZ : Hid (okX a b most n d m g = true → n = m → (∀ j, j < n → bad a b most d g j = false) → ∀ W, Below w.heap.size w W → TwoAt (nfX a b most n d m g) (nfC a b most n d m g) w (.returned (.tuple #[.int .i64 (-1), .int .i64 0])) W) := Lib.hid fun h q h1 W hb => by
    unfold nfX nfC; rw [h]; simp only [if_true, if_pos q, Fst.ix_no h1]; exact ⟨rfl, hb⟩
  have F0 : Hid (inB a 1 5000 = false → okX a b most n d m g = false) := Lib.hid fun h => by unfold okX; rw [h]; rfl
  have F1 : Hid (inB b 1 5000 = false → okX a b most n d m g = false) := Lib.hid fun h => by unfold okX; rw [h]; simp
  have F2 : Hid (tv (Ris.Ri 0 a n d) = false → okX a b most n d m g = false) := Lib.hid fun h => by unfold okX; rw [pl_ri_no h]; simp
  have F3 : Hid (tv (Ris.Ri 0 b m g) = false → okX a b most n d m g = false) := Lib.hid fun h => by unfold okX; rw [pl_ri_no h]; simp
  have F4 : Hid (10 < n → okX a b most n d m g = false) := Lib.hid fun h => by unfold okX; rw [pl_no h]; simp
  have F5 : Hid (10 < m → okX a b most n d m g = false) := Lib.hid fun h => by unfold okX; rw [pl_no h]; simp
  have F6 : Hid (inB most 0 5000 = false → okX a b most n d m g = false) := Lib.hid fun h => by unfold okX; rw [h]; simp
  have F7 : Hid (inB a 1 5000 = true → inB b 1 5000 = true → tv (Ris.Ri 0 a n d) = true → tv (Ris.Ri 0 b m g) = true → n ≤ 10 → m ≤ 10 → inB most 0 5000 = true → okX a b most n d m g = true) := Lib.hid fun h1 h2 h3 h4 h5 h6 h7 => by
    unfold okX; rw [h1, h2, pl_of_ri h5, pl_of_ri h6, h3, h4, h7]; rfl
  have HP := Lib.hid (fun h q i hi => @prods a b most n m d g h q i hi)
  have HD : Hid (∀ k, bad a b most d g k = decide (most * min a b < dx (d k * b) (g k * a))) := Lib.hid fun _ => rfl
  clear hA hL
  generalize TwoAt (nfX a b most n d m g) (nfC a b most n d m g) w = Q at HN HC HY HZ ⊢
  generalize bad a b most d g = B at HY HZ HD
  generalize okX a b most n d m g = r at HN HC HY HZ F0 F1 F2 F3 F4 F5 F6 F7 HP
  generalize inB a 1 5000 = r0 at C0 F0 F7
  generalize inB b 1 5000 = r1 at C1 F1 F7
  generalize tv (Ris.Ri 0 a n d) = r2 at C2 F2 F7
  generalize tv (Ris.Ri 0 b m g) = r3 at C3 F3 F7
  generalize inB most 0 5000 = r4 at C4 F6 F7
  generalize min a b = mn at CM HP HD
  go_enter Tryd.func35, Tryd.ntmps35
  go_wp2_with fail
  refine C0.out.mono ?_
  rintro e w' ⟨rfl, rfl⟩
  cases r0
  · have HX := Lib.hid (HN.out (F0.out rfl) w (Below.refl _ _))
    clear HC HY HZ HP HD
    go_wp2_with fail
    exact HX.out
  go_wp2_with fail
  refine C1.out.mono ?_
  rintro e w' ⟨rfl, rfl⟩
  cases r1
  · have HX := Lib.hid (HN.out (F1.out rfl) w (Below.refl _ _))
    clear HC HY HZ HP HD
    go_wp2_with fail
    exact HX.out
  go_wp2_with fail
  refine C2.out.mono ?_
  rintro e w1 ⟨rfl, b1⟩
  have HB1 := Lib.hid b1
  have C3' := Lib.hid (C3.out w1 b1)
  clear b1 C0 C1 C2 C3
  cases r2
  · have HX := Lib.hid (HN.out (F2.out rfl) w1 HB1.out)
    clear HC HY HZ HP HD
    go_wp2_with fail
    exact HX.out
  go_wp2_with fail
  refine C3'.out.mono ?_
  rintro e w2 ⟨rfl, b2⟩
  have HB2 := Lib.hid (below_then HB1.out b2)
  clear b2 C3' HB1
  cases r3
  · have HX := Lib.hid (HN.out (F3.out rfl) w2 HB2.out)
    clear HC HY HZ HP HD
    go_wp2_with fail
    exact HX.out
  by_cases h10 : 10 < n
  · have h10' : (10 : Int) < (n : Int) := by omega
    have HX := Lib.hid (HN.out (F4.out h10) w2 HB2.out)
    clear HC HY HZ HP HD
    go_wp2_with fail
    exact HX.out
  have h10' : ¬ (10 : Int) < (n : Int) := by omega
  by_cases h11 : 10 < m
  · have h11' : (10 : Int) < (m : Int) := by omega
    have HX := Lib.hid (HN.out (F5.out h11) w2 HB2.out)
    clear HC HY HZ HP HD
    go_wp2_with fail
    exact HX.out
  have h11' : ¬ (10 : Int) < (m : Int) := by omega
  go_wp2_with fail
  refine (C4.out _).mono ?_
  rintro e w' ⟨rfl, hw⟩
  subst hw
  cases r4
  · have HX := Lib.hid (HN.out (F6.out rfl) w2 HB2.out)
    clear HC HY HZ HP HD
    go_wp2_with fail
    exact HX.out
  have hr := F7.out (by first | rfl | trivial) (by first | rfl | trivial) (by first | rfl | trivial) (by first | rfl | trivial) (by omega) (by omega) (by first | rfl | trivial)
  by_cases hnm : n = m
  case neg =>
    have HX := Lib.hid (HC.out hr hnm w2 HB2.out)
    have q1 : ((n : Int) != (m : Int)) = true := by simp; omega
    clear HC HY HZ HP HD HN F0 F1 F2 F3 F4 F5 F6 F7 C4 CM
    go_wp2_with fail
    exact HX.out
  have HYr := Lib.hid (HY.out hr hnm)
  have HZr := Lib.hid (HZ.out hr hnm)
  have HPr := Lib.hid (fun i hi => HP.out hr hnm i hi)
  have q1 : ((n : Int) != (m : Int)) = false := by simp; omega
  clear HC HY HZ HP HN F0 F1 F2 F3 F4 F5 F6 F7 C4 hr
  go_wp2_with fail
  go_loopw [12] (fun i wr => ∃ k : Nat, k ≤ n ∧ i = .int .i64 (k : Int) ∧ Hid (Below w.heap.size w wr) ∧ Hid (∀ j, j < k → B j = false)) (fun i _ => n - (intOf i).toNat)
  case atStart => exact ⟨0, Nat.zero_le _, rfl, HB2, Lib.hid fun j hj => by omega⟩
  case round =>
    obtain ⟨k, hk, rfl, HW, hall⟩ := hrel
    have e0 : (0 : Int) ≤ (k : Int) := Int.natCast_nonneg _
    by_cases hlt : k < n
    · obtain ⟨b1, o1, rfl, hb1, hc1⟩ := (HA.out.below HW.out (Nat.le_refl _)) (by omega)
      obtain ⟨b2, o2, rfl, hb2, hc2⟩ := (HL.out.below HW.out (Nat.le_refl _)) (by omega)
      have x0 := bey_cell (hc1 k hlt)
      have y0 := bey_cell (hc2 k (by omega))
      have e1 : (k : Int) < (n : Int) := by omega
      have e2 : (k : Int) < (m : Int) := by omega
      have hk1 : k + 1 ≤ n := by omega
      obtain ⟨p1, p2, p3⟩ := HPr.out k hlt
      have CD := Lib.hid (fun w => size_g (d k * b) (g k * a) (by omega) (by omega) w)
      have HDk := Lib.hid (HD.out k)
      have HYk := Lib.hid (HYr.out k hlt hall.out)
      have HSk := Lib.hid (fun h => Fst.step_no hall.out (k := k) h)
      generalize B k = bk at HDk HYk HSk
      generalize d k = u at x0 p1 CD HDk
      generalize g k = v at y0 p2 CD HDk
      have t1 : IntKind.i64.wrap (u * b) = u * b := by rw [IntKind.wrap_i64]; omega
      have t2 : IntKind.i64.wrap (v * a) = v * a := by rw [IntKind.wrap_i64]; omega
      have t3 : IntKind.i64.wrap (u * b - v * a) = u * b - v * a := by rw [IntKind.wrap_i64]; omega
      have t4 : IntKind.i64.wrap (most * mn) = most * mn := by rw [IntKind.wrap_i64]; omega
      generalize dx (u * b) (v * a) = D at CD HDk
      clear hc1 hc2 hk p1 p2 p3 HYr HZr HPr HD
      by_cases hq : most * mn < D
      · have HX := Lib.hid (HYk.out (by rw [HDk.out]; exact decide_eq_true hq))
        clear HYk HSk HDk
        go_wp2_with fail
        refine wp_region_below (by kernel_rfl) (by kernel_rfl) ?_
        repeat (go_big_quiet_step (first | (go_at_call 62; with_reducible exact bey_same _ (CD.out _)) | (go_at_call 63; with_reducible exact bey_same _ (CM.out _))))
        refine wpQuiet_nil ?_
        rintro _ ⟨pq, rfl⟩
        have HQ := Lib.hid (below_then HW.out pq.h)
        generalize pq.to = wq at HQ ⊢
        have HX2 := Lib.hid (HX.out wq HQ.out)
        clear x0 y0 HX
        go_wp2_with fail
        exact HX2.out
      · have hq' : D ≤ most * mn := by omega
        have HX := Lib.hid (HSk.out (by rw [HDk.out]; exact decide_eq_false hq))
        clear HYk HSk HDk
        go_wp2_with fail
        refine wp_region_below (by kernel_rfl) (by kernel_rfl) ?_
        repeat (go_big_quiet_step (first | (go_at_call 62; with_reducible exact bey_same _ (CD.out _)) | (go_at_call 63; with_reducible exact bey_same _ (CM.out _))))
        refine wpQuiet_nil ?_
        rintro _ ⟨pq, rfl⟩
        have HQ := Lib.hid (below_then HW.out pq.h)
        generalize pq.to = wq at HQ ⊢
        clear x0 y0
        go_wp2_with fail
        go_roundw
        case rel => exact ⟨k + 1, hk1, by go_num, HQ, HX⟩
        case measure => simp [intOf]; omega
    · have hkn : k = n := by omega
      have e1 : ¬ (k : Int) < (n : Int) := by omega
      have HX := Lib.hid (HZr.out (fun j hj => hall.out j (by omega)) wr HW.out)
      clear HYr HZr HPr HD
      go_wp2_with fail
      exact HX.out
end Go.Proofs.YtpmmfalpcooenaaDoor.C9x
