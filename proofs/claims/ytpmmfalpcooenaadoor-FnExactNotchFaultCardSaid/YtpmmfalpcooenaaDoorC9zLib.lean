/- NotchFault: the program's. -/
import Derived.Test.YtpmmfalpcooenaaDoorC9xLib
namespace Go.Proofs.YtpmmfalpcooenaaDoor.C9z
set_option linter.unusedVariables false
open Go.RowKit Ft Is Ge Qb Ly Stv Ec Er C9k Ow C9x
open C9f (TwoAt)

set_option maxRecDepth 100000 in
set_option maxHeartbeats 2000000 in
theorem impl_nf (a b most : Int) (A : Option Addr) (n c : Nat) (d : Nat → Int) (hn : n ≤ 1048576) (L : Option Addr) (m lc : Nat) (g : Nat → Int) (hm : m ≤ 1048576) (w : World) (hV : V4 w) (hA : Nums w w.heap.size A n d) (hL : Nums w w.heap.size L m g) :
    Calls Tryd.prog 36 #[.int .i64 a, .int .i64 b, .slice A n c, .slice L m lc, .int .i64 most] w (TwoAt (nfX a b most n d m g) (nfC a b most n d m g) w) := by
  have HA := Lib.hid hA
  have HL := Lib.hid hL
  have C0 := Lib.hid (check_notches a b most A n c d hn L m lc g hm w hA hL hV.cnt hV.out hV.ord)
  rw [show ((inB a 1 5000 && inB b 1 5000) && tv (PlP 0 a n d) && tv (PlP 0 b m g) && inB most 0 5000) = okX a b most n d m g from rfl] at C0
  have CC := Lib.hid (fun x hx W (hb : Below w.heap.size w W) => code_of 2 (okX a b most n d m g) x hx W (hV.ety.below hb))
  have HN : Hid (okX a b most n d m g = false → ∀ W, Below w.heap.size w W → TwoAt (nfX a b most n d m g) (nfC a b most n d m g) w (.returned (.tuple #[.int .i64 0, .int .i64 2])) W) := Lib.hid fun h W hb => by
    unfold nfX nfC; rw [h]; exact ⟨rfl, hb⟩
  have HC : Hid (okX a b most n d m g = true → n ≠ m → ∀ W, Below w.heap.size w W → TwoAt (nfX a b most n d m g) (nfC a b most n d m g) w (.returned (.tuple #[.int .i64 0, .int .i64 9])) W) := Lib.hid fun h q W hb => by
    unfold nfX nfC; rw [h]; simp only [if_true, if_neg q]; exact ⟨rfl, hb⟩
  have HY : Hid (okX a b most n d m g = true → n = m → ∀ k, k < n → (∀ j, j < k → bad a b most d g j = false) → bad a b most d g k = true → ∀ W, Below w.heap.size w W → TwoAt (nfX a b most n d m g) (nfC a b most n d m g) w (.returned (.tuple #[.int .i64 (k : Int), .int .i64 0])) W) := Lib.hid fun h q k hk h1 h2 W hb => by
    unfold nfX nfC; rw [h]; simp only [if_true, if_pos q, Fst.ix_at h1 h2 hk]; exact ⟨rfl, hb⟩
  have HZ : Hid (okX a b most n d m g = true → n = m → (∀ j, j < n → bad a b most d g j = false) → ∀ W, Below w.heap.size w W → TwoAt (nfX a b most n d m g) (nfC a b most n d m g) w (.returned (.tuple #[.int .i64 (-1), .int .i64 0])) W) := Lib.hid fun h q h1 W hb => by
    unfold nfX nfC; rw [h]; simp only [if_true, if_pos q, Fst.ix_no h1]; exact ⟨rfl, hb⟩
  have HP := Lib.hid (fun h q i hi => @prods a b most n m d g h q i hi)
  have HD : Hid (∀ k, bad a b most d g k = decide (most * min a b < dx (d k * b) (g k * a))) := Lib.hid fun _ => rfl
  clear hA hL hV
  generalize TwoAt (nfX a b most n d m g) (nfC a b most n d m g) w = Q at HN HC HY HZ ⊢
  generalize bad a b most d g = B at HY HZ HD
  generalize okX a b most n d m g = r at C0 CC HN HC HY HZ HP
  go_enter Tryd.func36, Tryd.ntmps36
  go_wp2_with fail
  refine C0.out.mono ?_
  rintro e w1 ⟨⟨x, rfl, hx⟩, b1⟩
  have HB1 := Lib.hid b1
  have C1 := Lib.hid (CC.out x hx w1 b1)
  clear b1 hx C0 CC
  cases r
  · have HNr := Lib.hid (HN.out rfl)
    clear HN HC HY HZ HP HD
    simp only [Bool.false_eq_true, if_false] at C1
    go_wp2_with fail
    refine C1.out.mono ?_
    rintro e w2 ⟨rfl, b2⟩
    have HX := Lib.hid (HNr.out w2 (below_then HB1.out b2))
    clear b2 C1 HNr
    go_wp2_with fail
    exact HX.out
  simp only [if_true] at C1
  have HCr := Lib.hid (HC.out rfl)
  have HYr := Lib.hid (HY.out rfl)
  have HZr := Lib.hid (HZ.out rfl)
  have HPr := Lib.hid (fun q i hi => HP.out rfl q i hi)
  clear HN HC HY HZ HP
  go_wp2_with fail
  refine C1.out.mono ?_
  rintro e w2 ⟨rfl, b2⟩
  have HB2 := Lib.hid (below_then HB1.out b2)
  clear b2 C1 HB1
  by_cases hnm : n = m
  case neg =>
    have HX := Lib.hid (HCr.out hnm w2 HB2.out)
    have q1 : ((n : Int) != (m : Int)) = true := by simp; omega
    clear HCr HYr HZr HPr HD
    go_wp2_with fail
    exact HX.out
  have HYs := Lib.hid (HYr.out hnm)
  have HZs := Lib.hid (HZr.out hnm)
  have HPs := Lib.hid (fun i hi => HPr.out hnm i hi)
  have q1 : ((n : Int) != (m : Int)) = false := by simp; omega
  clear HCr HYr HZr HPr
  go_wp2_with fail
  go_loopw [31] (fun i wr => ∃ k : Nat, k ≤ n ∧ i = .int .i64 (k : Int) ∧ Hid (Below w.heap.size w wr) ∧ Hid (∀ j, j < k → B j = false)) (fun i _ => n - (intOf i).toNat)
  case atStart => exact ⟨0, Nat.zero_le _, rfl, HB2, Lib.hid fun j hj => by omega⟩
  case round =>
    obtain ⟨k, hk, rfl, HW, hall⟩ := hrel
    have e0 : (0 : Int) ≤ (k : Int) := Int.natCast_nonneg _
    by_cases hlt : k < n
    · obtain ⟨b1, o1, rfl, hb1, hc1⟩ := (HA.out.below HW.out (Nat.le_refl _)) (by omega)
      obtain ⟨b2, o2, rfl, hb2, hc2⟩ := (HL.out.below HW.out (Nat.le_refl _)) (by omega)
      have x0 := bey_cell (hc1 k hlt)
      have y0 := bey_cell (hc2 k (by omega))
      have e1 : (k : Int) < (n : Int) := by omega
      have e2 : (k : Int) < (m : Int) := by omega
      have hk1 : k + 1 ≤ n := by omega
      obtain ⟨p1, p2, p3⟩ := HPs.out k hlt
      have CD := Lib.hid (fun w => dist_g (d k * b) (g k * a) (by omega) (by omega) w)
      have HDk := Lib.hid (HD.out k)
      have HYk := Lib.hid (HYs.out k hlt hall.out)
      have HSk := Lib.hid (fun h => Fst.step_no hall.out (k := k) h)
      generalize B k = bk at HDk HYk HSk
      generalize d k = u at x0 p1 CD HDk
      generalize g k = v at y0 p2 CD HDk
      have t1 : IntKind.i64.wrap (u * b) = u * b := by rw [IntKind.wrap_i64]; omega
      have t2 : IntKind.i64.wrap (v * a) = v * a := by rw [IntKind.wrap_i64]; omega
      have t5 : (if b < a then b else a) = min a b := by split <;> omega
      have t4 : wrap64 (most * if b < a then b else a) = most * min a b := by rw [t5]; unfold wrap64; omega
      generalize dx (u * b) (v * a) = D at CD HDk
      clear hc1 hc2 hk p1 p2 p3 HYs HZs HPs HD
      by_cases hq : most * min a b < D
      · have HX := Lib.hid (HYk.out (by rw [HDk.out]; exact decide_eq_true hq))
        clear HYk HSk HDk t5
        go_wp2_with fail
        refine wp_region_below (by kernel_rfl) (by kernel_rfl) ?_
        repeat (go_big_quiet_step (first | (go_at_call 65; with_reducible exact bey_same _ (CD.out _))))
        refine wpQuiet_nil ?_
        rintro _ ⟨pq, rfl⟩
        have HQ := Lib.hid (below_then HW.out pq.h)
        generalize pq.to = wq at HQ ⊢
        have HX2 := Lib.hid (HX.out wq HQ.out)
        clear x0 y0 HX
        go_wp2_with fail
        all_goals exact HX2.out
      · have HX := Lib.hid (HSk.out (by rw [HDk.out]; exact decide_eq_false hq))
        have hq' : D ≤ most * min a b := by omega
        clear HYk HSk HDk t5
        go_wp2_with fail
        refine wp_region_below (by kernel_rfl) (by kernel_rfl) ?_
        repeat (go_big_quiet_step (first | (go_at_call 65; with_reducible exact bey_same _ (CD.out _))))
        refine wpQuiet_nil ?_
        rintro _ ⟨pq, rfl⟩
        have HQ := Lib.hid (below_then HW.out pq.h)
        generalize pq.to = wq at HQ ⊢
        clear x0 y0
        go_wp2_with fail
        all_goals
          go_roundw
          case rel => exact ⟨k + 1, hk1, by go_num, HQ, HX⟩
          case measure => simp [intOf]; omega
    · have hkn : k = n := by omega
      have e1 : ¬ (k : Int) < (n : Int) := by omega
      have HX := Lib.hid (HZs.out (fun j hj => hall.out j (by omega)) wr HW.out)
      clear HYs HZs HPs HD
      go_wp2_with fail
      exact HX.out
end Go.Proofs.YtpmmfalpcooenaaDoor.C9z
