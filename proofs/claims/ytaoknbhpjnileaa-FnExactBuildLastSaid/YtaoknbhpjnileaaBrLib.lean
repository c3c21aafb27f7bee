/- A last to which layers have been added: the program's. -/
import Derived.Test.YtaoknbhpjnileaaBqLib
import Derived.Test.YtaoknbhpjnileaaGlLib
import Derived.Deep.RegionWith
namespace Go.Proofs.Ytaoknbhpjnileaa.Bq
open Go.RowKit Ft Is Ge Qb La Ly Ga

theorem can_any (A : Option Addr) (n c : Nat) (d : Nat → Int) (hn : n ≤ 1048576) (w : World) (hA : Nums w w.heap.size A n d) :
    Calls Try.prog 76 #[.slice A n c] w fun e w' => e = .returned (.bool (tv (Al 1 200 n d) && decide (n ≤ 100))) ∧ w = w' := by
  have C := Lib.hid (are_any 1 200 A n c d hn w hA)
  generalize tv (Al 1 200 n d) = r at C ⊢
  by_cases h : n ≤ 100
  · have h' : (n : Int) ≤ 100 := by omega
    rw [decide_eq_true h, Bool.and_true]
    go_enter Try.func76, Try.ntmps76
    go_wp2_with fail
    refine C.out.mono ?_
    rintro e w' ⟨rfl, rfl⟩
    go_wp2_with fail
    go_ret
    exact ⟨rfl, rfl⟩
  · have h' : ¬ (n : Int) ≤ 100 := by omega
    rw [decide_eq_false h, Bool.and_false]
    go_enter Try.func76, Try.ntmps76
    go_wp2_with fail
    go_ret
    exact ⟨rfl, rfl⟩
theorem sum_any (A : Option Addr) (n c : Nat) (d : Nat → Int) (hn : n ≤ 1048576) (hd : ∀ j, j < n → inB (d j) 1 200 = true) (w : World) (hA : Nums w w.heap.size A n d) :
    Calls Try.prog 78 #[.slice A n c] w fun e w' => e = .returned (.int .i64 (ssum d n)) ∧ w = w' := by
  have HA := Lib.hid hA
  have HD := Lib.hid hd
  have HS : Hid (∀ k, k ≤ n → 0 ≤ ssum d k ∧ ssum d k ≤ 200 * (k : Int)) := Lib.hid fun k hk => ssum_bd k (fun j hj => hd j (by omega))
  have HSs : Hid (∀ k, ssum d (k + 1) = ssum d k + d k) := Lib.hid fun k => rfl
  have HS0 : Hid (ssum d 0 = 0) := Lib.hid rfl
  clear hA hd
  generalize ssum d = SS at HS HSs HS0 ⊢
  go_enter Try.func78, Try.ntmps78
  go_wp2_with fail
  go_loop [3, 5, 8] (fun a _ i => ∃ k : Nat, k ≤ n ∧ i = .int .i64 (k : Int) ∧ a = .int .i64 (SS k)) (fun _ _ i => n - (intOf i).toNat)
  case atStart => exact ⟨0, Nat.zero_le _, rfl, by rw [HS0.out]⟩
  case round =>
    obtain ⟨k, hk, rfl, rfl⟩ := hrel
    by_cases hlt : k < n
    · obtain ⟨b, off, rfl, hb, hc⟩ := HA.out (by omega)
      have y0 := hc k hlt
      obtain ⟨t1, t2⟩ := HS.out k (by omega)
      obtain ⟨u1, u2⟩ := in_of (HD.out k hlt)
      have HSk := Lib.hid (HSs.out k)
      generalize d k = u at y0 u1 u2 HSk
      clear hc
      go_wp2_with fail
      go_round
      case rel => exact ⟨k + 1, by omega, by go_num, by rw [HSk.out]⟩
      case measure => simp [intOf]; omega
    · obtain rfl : k = n := by omega
      go_wp2_with fail
      go_ret
      exact ⟨rfl, rfl⟩
theorem numbers_la (s : ByteArray) (x : Nat → Int) (w : World) : Calls Try.prog 77 #[laV s x] w fun e w' => e = .returned (fvV x) ∧ Below w.heap.size w w' := by
  unfold fvV laV
  generalize x 0 = f0, x 1 = f1, x 2 = f2, x 3 = f3, x 4 = f4
  go_enter Try.func77, Try.ntmps77
  go_wp2
  exact bodyPost_ret (v := .agg #[.int .i64 f0, .int .i64 f1, .int .i64 f2, .int .i64 f3, .int .i64 f4]) (by simp [results, Try.results77, go_sem]) rfl ⟨rfl, by repeat (first | exact Below.refl _ _ | exact below_box _ _ | refine Below.drew ?_ | refine Below.setCell ?_ (by simp <;> omega) _ | refine Below.alloc ?_ (by simp <;> omega) _)⟩
set_option maxRecDepth 100000 in
set_option maxHeartbeats 4000000 in
theorem impl_bl (s : ByteArray) (x : Nat → Int) (gi : Int) (A : Option Addr) (n c : Nat) (d : Nat → Int) (hs : s.size ≤ maxLen) (hn : n ≤ 1048576) (w : World) (hA : Nums w w.heap.size A n d) :
    Calls Try.prog 37 #[laV s x, .int .i64 gi, .slice A n c] w (BlAt s x gi n d w) := by
  have HA := Lib.hid hA
  have C1 := Lib.hid (fun w => one_impl s x hs w)
  have C4 := Lib.hid (fun w => one_impl s (bm x gi (ssum d n)) hs w)
  have CL := Lib.hid (fun w => Gl.last_any s (bm x gi (ssum d n)) w)
  have CN := Lib.hid (fun w => numbers_la s x w)
  have CG := Lib.hid (fun w => Ly.within_any gi 1 3 w)
  have CB := Lib.hid (fun w h => can_any A n c d hn w h)
  have HX := Lib.hid (fun h => la_bd (s := s) (x := x) h)
  have P1 : Hid (laB s x = false → ∀ w', Below w.heap.size w w' → BlAt s x gi n d w (.returned (.tuple #[.agg #[.string ⟨#[]⟩, .int .i64 0, .int .i64 0, .int .i64 0, .int .i64 0, .int .i64 0], .int .i64 1])) w') := Lib.hid fun h w' hb => bl_not (by simp [blC, h]) (by omega) hb
  have P2 : Hid (laB s x = true → blOk n d gi = false → ∀ w', Below w.heap.size w w' → BlAt s x gi n d w (.returned (.tuple #[.agg #[.string ⟨#[]⟩, .int .i64 0, .int .i64 0, .int .i64 0, .int .i64 0, .int .i64 0], .int .i64 2])) w') := Lib.hid fun h h' w' hb => bl_not (by simp [blC, h, h']) (by omega) hb
  have P3 : Hid (laB s x = true → blOk n d gi = true → laB s (bm x gi (ssum d n)) = false → ∀ w', Below w.heap.size w w' → BlAt s x gi n d w (.returned (.tuple #[.agg #[.string ⟨#[]⟩, .int .i64 0, .int .i64 0, .int .i64 0, .int .i64 0, .int .i64 0], .int .i64 5])) w') := Lib.hid fun h h' h'' w' hb => bl_not (by simp [blC, h, h', h'']) (by omega) hb
  have P4 : Hid (laB s x = true → blOk n d gi = true → laB s (bm x gi (ssum d n)) = true → ∀ w', Below w.heap.size w w' → BlAt s x gi n d w (.returned (.tuple #[laV s (bm x gi (ssum d n)), .int .i64 0])) w') := Lib.hid fun h h' h'' w' hb => bl_yes (by simp [blC, h, h', h'']) hb
  have HOk : Hid (blOk n d gi = (inB gi 1 3 && (tv (Al 1 200 n d) && decide (n ≤ 100)))) := Lib.hid (by
    unfold blOk
    cases tv (Al 1 200 n d) <;> cases decide (n ≤ 100) <;> cases inB gi 1 3 <;> rfl)
  have HAl : Hid ((tv (Al 1 200 n d) && decide (n ≤ 100)) = true → ∀ w, Nums w w.heap.size A n d → Calls Try.prog 78 #[.slice A n c] w fun e w' => e = .returned (.int .i64 (ssum d n)) ∧ w = w') := Lib.hid fun h w hA => sum_any A n c d hn (tv_iff.1 (by simp only [Bool.and_eq_true] at h; exact h.1)) w hA
  have HSb : Hid ((tv (Al 1 200 n d) && decide (n ≤ 100)) = true → 0 ≤ ssum d n ∧ ssum d n ≤ 20000) := Lib.hid fun h => by
    simp only [Bool.and_eq_true, decide_eq_true_eq] at h
    have := ssum_bd (d := d) n (tv_iff.1 h.1)
    omega
  have HGi : Hid (inB gi 1 3 = true → gi = 1 ∨ gi = 2 ∨ gi = 3) := Lib.hid fun h => by have := in_of h; omega
  obtain ⟨kx, kz⟩ := Ge.two w (laC s x 33) (.cells #[.string ⟨#[]⟩, .int .i64 0, .int .i64 0, .int .i64 0, .int .i64 0, .int .i64 0] 33)
  have B0 := Lib.hid (Ge.below2 w (laC s x 33) (.cells #[.string ⟨#[]⟩, .int .i64 0, .int .i64 0, .int .i64 0, .int .i64 0, .int .i64 0] 33))
  have KX := Lib.hid kx
  have KZ := Lib.hid kz
  clear kx kz hA
  generalize BlAt s x gi n d w = Q at P1 P2 P3 P4 ⊢
  rw [HOk.out] at P2 P3 P4
  clear HOk
  generalize (tv (Al 1 200 n d) && decide (n ≤ 100)) = rb at CB HAl HSb P2 P3 P4
  generalize hrg : inB gi 1 3 = rg at CG HGi P2 P3 P4
  clear hrg
  generalize hr1 : laB s x = r1 at C1 HX P1 P2 P3 P4
  clear hr1
  generalize hr4 : laB s (bm x gi (ssum d n)) = r4 at C4 P3 P4
  clear hr4
  generalize hSS : ssum d n = SS at HAl HSb C4 CL P4
  clear hSS
  simp only [laV] at C1 CN ⊢
  simp only [laC] at KX B0
  have R : (rg = false) ∨ (rg = true ∧ rb = false) ∨ (rg = true ∧ rb = true) := by cases rg <;> cases rb <;> simp
  go_enter Try.func37, Try.ntmps37
  go_upto_region 1 with fail
  generalize hw2 : (w.alloc _).alloc _ = w2 at KX KZ B0 ⊢
  clear hw2
  obtain ⟨v0, v1, v2, v3, v4, v5⟩ := blk6 KX.out
  have fz := blk_free KZ.out
  have hlz := lt_of_heap KZ.out
  have HA2 := Lib.hid ((HA.out.below B0.out (Nat.le_refl _)).more B0.out.size)
  rcases R with rfl | ⟨rfl, rfl⟩ | ⟨rfl, rfl⟩
  · go_wp2_with fail
    refine (CG.out _).mono ?_
    rintro e w' ⟨rfl, rfl⟩
    go_wp2_with fail
    refine (C1.out _).mono ?_
    rintro e w3 ⟨rfl, b3⟩
    have B3 := Lib.hid (below_then B0.out b3)
    have KZ3 := Lib.hid (blk_keep b3 KZ.out)
    clear b3 v0 v1 v2 v3 v4 v5 fz hlz
    obtain ⟨z0, z1, z2, z3, z4, z5⟩ := blk6 KZ3.out
    have fz := blk_free KZ3.out
    have hlz := lt_of_heap KZ3.out
    cases r1
    · go_wp2_with fail
      refine (Ba.arg_inv false _).mono ?_
      rintro e w' ⟨rfl, rfl⟩
      go_wp2_with fail
      exact bodyPost_ret (v := .tuple #[.agg #[.string ⟨#[]⟩, .int .i64 0, .int .i64 0, .int .i64 0, .int .i64 0, .int .i64 0], .int .i64 1]) (by simp [results, Try.results37, go_sem, z0, z1, z2, z3, z4, z5]) rfl
        (P1.out (by first | rfl | trivial) _ (by repeat (first | (with_reducible exact B3.out) | (with_reducible refine Below.drew ?_) | (with_reducible refine Below.setCell ?_ (by simp <;> omega) _))))
    · go_wp2_with fail
      refine (Ba.arg_rng _).mono ?_
      rintro e w' ⟨rfl, rfl⟩
      go_wp2_with fail
      exact bodyPost_ret (v := .tuple #[.agg #[.string ⟨#[]⟩, .int .i64 0, .int .i64 0, .int .i64 0, .int .i64 0, .int .i64 0], .int .i64 2]) (by simp [results, Try.results37, go_sem, z0, z1, z2, z3, z4, z5]) rfl
        (P2.out (by first | rfl | trivial) (by first | rfl | trivial) _ (by repeat (first | (with_reducible exact B3.out) | (with_reducible refine Below.drew ?_) | (with_reducible refine Below.setCell ?_ (by simp <;> omega) _))))
  · go_wp2_with fail
    refine (CG.out _).mono ?_
    rintro e w' ⟨rfl, rfl⟩
    go_wp2_with fail
    refine (CB.out _ HA2.out).mono ?_
    rintro e w' ⟨rfl, rfl⟩
    go_wp2_with fail
    refine (C1.out _).mono ?_
    rintro e w3 ⟨rfl, b3⟩
    have B3 := Lib.hid (below_then B0.out b3)
    have KZ3 := Lib.hid (blk_keep b3 KZ.out)
    clear b3 v0 v1 v2 v3 v4 v5 fz hlz
    obtain ⟨z0, z1, z2, z3, z4, z5⟩ := blk6 KZ3.out
    have fz := blk_free KZ3.out
    have hlz := lt_of_heap KZ3.out
    cases r1
    · go_wp2_with fail
      refine (Ba.arg_inv false _).mono ?_
      rintro e w' ⟨rfl, rfl⟩
      go_wp2_with fail
      exact bodyPost_ret (v := .tuple #[.agg #[.string ⟨#[]⟩, .int .i64 0, .int .i64 0, .int .i64 0, .int .i64 0, .int .i64 0], .int .i64 1]) (by simp [results, Try.results37, go_sem, z0, z1, z2, z3, z4, z5]) rfl
        (P1.out (by first | rfl | trivial) _ (by repeat (first | (with_reducible exact B3.out) | (with_reducible refine Below.drew ?_) | (with_reducible refine Below.setCell ?_ (by simp <;> omega) _))))
    · go_wp2_with fail
      refine (Ba.arg_rng _).mono ?_
      rintro e w' ⟨rfl, rfl⟩
      go_wp2_with fail
      exact bodyPost_ret (v := .tuple #[.agg #[.string ⟨#[]⟩, .int .i64 0, .int .i64 0, .int .i64 0, .int .i64 0, .int .i64 0], .int .i64 2]) (by simp [results, Try.results37, go_sem, z0, z1, z2, z3, z4, z5]) rfl
        (P2.out (by first | rfl | trivial) (by first | rfl | trivial) _ (by repeat (first | (with_reducible exact B3.out) | (with_reducible refine Below.drew ?_) | (with_reducible refine Below.setCell ?_ (by simp <;> omega) _))))
  · go_wp2_with fail
    refine (CG.out _).mono ?_
    rintro e w' ⟨rfl, rfl⟩
    go_wp2_with fail
    refine (CB.out _ HA2.out).mono ?_
    rintro e w' ⟨rfl, rfl⟩
    go_wp2_with fail
    refine (C1.out _).mono ?_
    rintro e w3 ⟨rfl, b3⟩
    have B3 := Lib.hid (below_then B0.out b3)
    have KX3 := Lib.hid (blk_keep b3 KX.out)
    have KZ3 := Lib.hid (blk_keep b3 KZ.out)
    clear b3 v0 v1 v2 v3 v4 v5 fz hlz C1
    cases r1
    · obtain ⟨z0, z1, z2, z3, z4, z5⟩ := blk6 KZ3.out
      have fz := blk_free KZ3.out
      have hlz := lt_of_heap KZ3.out
      go_wp2_with fail
      refine (Ba.arg_inv true _).mono ?_
      rintro e w' ⟨rfl, rfl⟩
      go_wp2_with fail
      exact bodyPost_ret (v := .tuple #[.agg #[.string ⟨#[]⟩, .int .i64 0, .int .i64 0, .int .i64 0, .int .i64 0, .int .i64 0], .int .i64 1]) (by simp [results, Try.results37, go_sem, z0, z1, z2, z3, z4, z5]) rfl
        (P1.out (by first | rfl | trivial) _ (by repeat (first | (with_reducible exact B3.out) | (with_reducible refine Below.drew ?_) | (with_reducible refine Below.setCell ?_ (by simp <;> omega) _))))
    have HXb := Lib.hid (HX.out (by first | rfl | trivial))
    have HSS := Lib.hid (HSb.out (by first | rfl | trivial))
    have CS := Lib.hid (HAl.out (by first | rfl | trivial))
    have HG3 := HGi.out (by first | rfl | trivial)
    go_wp2_with fail
    refine (Ba.arg_ok _).mono ?_
    rintro e w' ⟨rfl, rfl⟩
    obtain ⟨v0, v1, v2, v3, v4, v5⟩ := blk6 KX3.out
    go_wp2_with fail
    refine (CN.out _).mono ?_
    rintro e w4 ⟨rfl, b4⟩
    have B4 := Lib.hid (below_then B3.out b4)
    have KX4 := Lib.hid (blk_keep b4 KX3.out)
    have KZ4 := Lib.hid (blk_keep b4 KZ3.out)
    clear b4 v0 v1 v2 v3 v4 v5 KX3 KZ3 B3 CN KX KZ B0
    have B5 := Lib.hid (below_then B4.out (below_box w4 (fvC x 100)))
    have KX5 := Lib.hid (blk_keep (below_box w4 (fvC x 100)) KX4.out)
    have KZ5 := Lib.hid (blk_keep (below_box w4 (fvC x 100)) KZ4.out)
    have KM5 := Lib.hid (heap_alloc_new w4 (fvC x 100))
    have hxm := lt_of_heap KX4.out
    have hzm := lt_of_heap KZ4.out
    go_upto_region 6 with fail
    generalize w4.alloc _ = w5 at B5 KX5 KZ5 KM5 ⊢
    generalize w4.heap.size = gm at KM5 hxm hzm ⊢
    have hlm := lt_of_heap KM5.out
    have hgm : w.heap.size ≤ gm := by omega
    have HA5 := Lib.hid (fun W (h : Below w.heap.size w W) => (HA.out.below h (Nat.le_refl _)).more h.size)
    obtain ⟨p1, p2⟩ := HXb.out 1 (by omega)
    obtain ⟨p3, p4⟩ := HXb.out 2 (by omega)
    obtain ⟨p5, p6⟩ := HXb.out 3 (by omega)
    obtain ⟨q1, q2⟩ := HSS.out
    obtain ⟨m0, m1, m2, m3, m4⟩ := blk5 KM5.out
    have fm := blk_free KM5.out
    rcases HG3 with rfl | rfl | rfl
    · have hlv : laV s (bm x 1 SS) = .agg #[.string s, .int .i64 (x 0), .int .i64 (x 1 + SS), .int .i64 (x 2), .int .i64 (x 3), .int .i64 (x 4)] := by simp [laV, bm]
      have hfv : fvV (bm x 1 SS) = .agg #[.int .i64 (x 0), .int .i64 (x 1 + SS), .int .i64 (x 2), .int .i64 (x 3), .int .i64 (x 4)] := by simp [fvV, bm]
      rw [hlv] at C4 CL P4
      rw [hfv] at CL
      clear hlv hfv
      have KM6 : Hid (((w5.setCell ⟨gm, 1, none⟩ (.int .i64 (x 1 + SS))).drew).heap[gm]? = some (.cells #[.int .i64 (x 0), .int .i64 (x 1 + SS), .int .i64 (x 2), .int .i64 (x 3), .int .i64 (x 4)] 100 (0, 0))) := Lib.hid (Ge.heap_set KM5.out 1 (.int .i64 (x 1 + SS)))
      have KX6 : Hid (((w5.setCell ⟨gm, 1, none⟩ (.int .i64 (x 1 + SS))).drew).heap[w.heap.size]? = some (.cells #[.string s, .int .i64 (x 0), .int .i64 (x 1), .int .i64 (x 2), .int .i64 (x 3), .int .i64 (x 4)] 33 (0, 0))) := Lib.hid ((Below.heap_setCell _ _ _ _ (show w.heap.size ≠ gm by omega)).trans KX5.out)
      have KZ6 : Hid (((w5.setCell ⟨gm, 1, none⟩ (.int .i64 (x 1 + SS))).drew).heap[w.heap.size + 1]? = some (.cells #[.string ⟨#[]⟩, .int .i64 0, .int .i64 0, .int .i64 0, .int .i64 0, .int .i64 0] 33 (0, 0))) := Lib.hid ((Below.heap_setCell _ _ _ _ (show w.heap.size + 1 ≠ gm by omega)).trans KZ5.out)
      have B6 := Lib.hid (B5.out.setCell (p := ⟨gm, 1, none⟩) hgm (.int .i64 (x 1 + SS))).drew
      have hwr : IntKind.i64.wrap (x 1 + SS) = x 1 + SS := IntWalk.i64_in _ (by omega)
      have CS5 := Lib.hid (CS.out w5.drew (HA5.out _ B5.out.drew))
      go_region_with (go_at_call 78; refine (CS5.out).mono ?_; rintro e wn ⟨rfl, rfl⟩)
      all_goals
        generalize hw6 : World.drew (w5.setCell _ _) = w6 at KM6 KX6 KZ6 B6 ⊢
        clear hw6 m0 m1 m2 m3 m4 fm KM5 KX5 KZ5 B5 CS CS5 KX4 KZ4 B4 hwr
        obtain ⟨m0, m1, m2, m3, m4⟩ := blk5 KM6.out
        obtain ⟨v0, v1, v2, v3, v4, v5⟩ := blk6 KX6.out
        go_wp2_with fail
        refine (CL.out _).mono ?_
        rintro e w7 ⟨rfl, b7⟩
        have B7 := Lib.hid (below_then B6.out b7)
        have KZ7 := Lib.hid (blk_keep b7 KZ6.out)
        clear b7 m0 m1 m2 m3 m4 v0 v1 v2 v3 v4 v5 CL KM6 KX6 KZ6 B6
        have B8 := Lib.hid (below_then B7.out (below_box w7 (.cells #[.string s, .int .i64 (x 0), .int .i64 (x 1 + SS), .int .i64 (x 2), .int .i64 (x 3), .int .i64 (x 4)] 33)))
        have KZ8 := Lib.hid (blk_keep (below_box w7 (.cells #[.string s, .int .i64 (x 0), .int .i64 (x 1 + SS), .int .i64 (x 2), .int .i64 (x 3), .int .i64 (x 4)] 33)) KZ7.out)
        have KY8 := Lib.hid (heap_alloc_new w7 (.cells #[.string s, .int .i64 (x 0), .int .i64 (x 1 + SS), .int .i64 (x 2), .int .i64 (x 3), .int .i64 (x 4)] 33))
        go_upto_region 8 with fail
        generalize w7.alloc _ = w8 at B8 KZ8 KY8 ⊢
        generalize w7.heap.size = gy at KY8 ⊢
        obtain ⟨v0, v1, v2, v3, v4, v5⟩ := blk6 KY8.out
        go_wp2_with fail
        refine (C4.out _).mono ?_
        rintro e w9 ⟨rfl, b9⟩
        have B9 := Lib.hid (below_then B8.out b9)
        have KZ9 := Lib.hid (blk_keep b9 KZ8.out)
        have KY9 := Lib.hid (blk_keep b9 KY8.out)
        clear b9 v0 v1 v2 v3 v4 v5 C4
        obtain ⟨v0, v1, v2, v3, v4, v5⟩ := blk6 KY9.out
        obtain ⟨z0, z1, z2, z3, z4, z5⟩ := blk6 KZ9.out
        have fz := blk_free KZ9.out
        have hlz := lt_of_heap KZ9.out
        cases r4
        · go_wp2_with fail
          exact bodyPost_ret (v := .tuple #[.agg #[.string ⟨#[]⟩, .int .i64 0, .int .i64 0, .int .i64 0, .int .i64 0, .int .i64 0], .int .i64 5]) (by simp [results, Try.results37, go_sem, z0, z1, z2, z3, z4, z5]) rfl
            (P3.out (by first | rfl | trivial) (by first | rfl | trivial) (by first | rfl | trivial) _ (by repeat (first | (with_reducible exact B9.out) | (with_reducible refine Below.drew ?_) | (with_reducible refine Below.setCell ?_ (by simp <;> omega) _))))
        · go_wp2_with fail
          exact bodyPost_ret (v := .tuple #[.agg #[.string s, .int .i64 (x 0), .int .i64 (x 1 + SS), .int .i64 (x 2), .int .i64 (x 3), .int .i64 (x 4)], .int .i64 0]) (by simp [results, Try.results37, go_sem, z0, z1, z2, z3, z4, z5]) rfl
            (P4.out (by first | rfl | trivial) (by first | rfl | trivial) (by first | rfl | trivial) _ (by repeat (first | (with_reducible exact B9.out) | (with_reducible refine Below.drew ?_) | (with_reducible refine Below.setCell ?_ (by simp <;> omega) _))))
    · have hlv : laV s (bm x 2 SS) = .agg #[.string s, .int .i64 (x 0), .int .i64 (x 1), .int .i64 (x 2 + SS), .int .i64 (x 3), .int .i64 (x 4)] := by simp [laV, bm]
      have hfv : fvV (bm x 2 SS) = .agg #[.int .i64 (x 0), .int .i64 (x 1), .int .i64 (x 2 + SS), .int .i64 (x 3), .int .i64 (x 4)] := by simp [fvV, bm]
      rw [hlv] at C4 CL P4
      rw [hfv] at CL
      clear hlv hfv
      have KM6 : Hid (((w5.setCell ⟨gm, 2, none⟩ (.int .i64 (x 2 + SS))).drew).heap[gm]? = some (.cells #[.int .i64 (x 0), .int .i64 (x 1), .int .i64 (x 2 + SS), .int .i64 (x 3), .int .i64 (x 4)] 100 (0, 0))) := Lib.hid (Ge.heap_set KM5.out 2 (.int .i64 (x 2 + SS)))
      have KX6 : Hid (((w5.setCell ⟨gm, 2, none⟩ (.int .i64 (x 2 + SS))).drew).heap[w.heap.size]? = some (.cells #[.string s, .int .i64 (x 0), .int .i64 (x 1), .int .i64 (x 2), .int .i64 (x 3), .int .i64 (x 4)] 33 (0, 0))) := Lib.hid ((Below.heap_setCell _ _ _ _ (show w.heap.size ≠ gm by omega)).trans KX5.out)
      have KZ6 : Hid (((w5.setCell ⟨gm, 2, none⟩ (.int .i64 (x 2 + SS))).drew).heap[w.heap.size + 1]? = some (.cells #[.string ⟨#[]⟩, .int .i64 0, .int .i64 0, .int .i64 0, .int .i64 0, .int .i64 0] 33 (0, 0))) := Lib.hid ((Below.heap_setCell _ _ _ _ (show w.heap.size + 1 ≠ gm by omega)).trans KZ5.out)
      have B6 := Lib.hid (B5.out.setCell (p := ⟨gm, 2, none⟩) hgm (.int .i64 (x 2 + SS))).drew
      have hwr : IntKind.i64.wrap (x 2 + SS) = x 2 + SS := IntWalk.i64_in _ (by omega)
      have CS5 := Lib.hid (CS.out w5.drew (HA5.out _ B5.out.drew))
      go_region_with (go_at_call 78; refine (CS5.out).mono ?_; rintro e wn ⟨rfl, rfl⟩)
      all_goals
        generalize hw6 : World.drew (w5.setCell _ _) = w6 at KM6 KX6 KZ6 B6 ⊢
        clear hw6 m0 m1 m2 m3 m4 fm KM5 KX5 KZ5 B5 CS CS5 KX4 KZ4 B4 hwr
        obtain ⟨m0, m1, m2, m3, m4⟩ := blk5 KM6.out
        obtain ⟨v0, v1, v2, v3, v4, v5⟩ := blk6 KX6.out
        go_wp2_with fail
        refine (CL.out _).mono ?_
        rintro e w7 ⟨rfl, b7⟩
        have B7 := Lib.hid (below_then B6.out b7)
        have KZ7 := Lib.hid (blk_keep b7 KZ6.out)
        clear b7 m0 m1 m2 m3 m4 v0 v1 v2 v3 v4 v5 CL KM6 KX6 KZ6 B6
        have B8 := Lib.hid (below_then B7.out (below_box w7 (.cells #[.string s, .int .i64 (x 0), .int .i64 (x 1), .int .i64 (x 2 + SS), .int .i64 (x 3), .int .i64 (x 4)] 33)))
        have KZ8 := Lib.hid (blk_keep (below_box w7 (.cells #[.string s, .int .i64 (x 0), .int .i64 (x 1), .int .i64 (x 2 + SS), .int .i64 (x 3), .int .i64 (x 4)] 33)) KZ7.out)
        have KY8 := Lib.hid (heap_alloc_new w7 (.cells #[.string s, .int .i64 (x 0), .int .i64 (x 1), .int .i64 (x 2 + SS), .int .i64 (x 3), .int .i64 (x 4)] 33))
        go_upto_region 8 with fail
        generalize w7.alloc _ = w8 at B8 KZ8 KY8 ⊢
        generalize w7.heap.size = gy at KY8 ⊢
        obtain ⟨v0, v1, v2, v3, v4, v5⟩ := blk6 KY8.out
        go_wp2_with fail
        refine (C4.out _).mono ?_
        rintro e w9 ⟨rfl, b9⟩
        have B9 := Lib.hid (below_then B8.out b9)
        have KZ9 := Lib.hid (blk_keep b9 KZ8.out)
        have KY9 := Lib.hid (blk_keep b9 KY8.out)
        clear b9 v0 v1 v2 v3 v4 v5 C4
        obtain ⟨v0, v1, v2, v3, v4, v5⟩ := blk6 KY9.out
        obtain ⟨z0, z1, z2, z3, z4, z5⟩ := blk6 KZ9.out
        have fz := blk_free KZ9.out
        have hlz := lt_of_heap KZ9.out
        cases r4
        · go_wp2_with fail
          exact bodyPost_ret (v := .tuple #[.agg #[.string ⟨#[]⟩, .int .i64 0, .int .i64 0, .int .i64 0, .int .i64 0, .int .i64 0], .int .i64 5]) (by simp [results, Try.results37, go_sem, z0, z1, z2, z3, z4, z5]) rfl
            (P3.out (by first | rfl | trivial) (by first | rfl | trivial) (by first | rfl | trivial) _ (by repeat (first | (with_reducible exact B9.out) | (with_reducible refine Below.drew ?_) | (with_reducible refine Below.setCell ?_ (by simp <;> omega) _))))
        · go_wp2_with fail
          exact bodyPost_ret (v := .tuple #[.agg #[.string s, .int .i64 (x 0), .int .i64 (x 1), .int .i64 (x 2 + SS), .int .i64 (x 3), .int .i64 (x 4)], .int .i64 0]) (by simp [results, Try.results37, go_sem, z0, z1, z2, z3, z4, z5]) rfl
            (P4.out (by first | rfl | trivial) (by first | rfl | trivial) (by first | rfl | trivial) _ (by repeat (first | (with_reducible exact B9.out) | (with_reducible refine Below.drew ?_) | (with_reducible refine Below.setCell ?_ (by simp <;> omega) _))))
    · have hlv : laV s (bm x 3 SS) = .agg #[.string s, .int .i64 (x 0), .int .i64 (x 1), .int .i64 (x 2), .int .i64 (x 3 + SS), .int .i64 (x 4)] := by simp [laV, bm]
      have hfv : fvV (bm x 3 SS) = .agg #[.int .i64 (x 0), .int .i64 (x 1), .int .i64 (x 2), .int .i64 (x 3 + SS), .int .i64 (x 4)] := by simp [fvV, bm]
      rw [hlv] at C4 CL P4
      rw [hfv] at CL
      clear hlv hfv
      have KM6 : Hid (((w5.setCell ⟨gm, 3, none⟩ (.int .i64 (x 3 + SS))).drew).heap[gm]? = some (.cells #[.int .i64 (x 0), .int .i64 (x 1), .int .i64 (x 2), .int .i64 (x 3 + SS), .int .i64 (x 4)] 100 (0, 0))) := Lib.hid (Ge.heap_set KM5.out 3 (.int .i64 (x 3 + SS)))
      have KX6 : Hid (((w5.setCell ⟨gm, 3, none⟩ (.int .i64 (x 3 + SS))).drew).heap[w.heap.size]? = some (.cells #[.string s, .int .i64 (x 0), .int .i64 (x 1), .int .i64 (x 2), .int .i64 (x 3), .int .i64 (x 4)] 33 (0, 0))) := Lib.hid ((Below.heap_setCell _ _ _ _ (show w.heap.size ≠ gm by omega)).trans KX5.out)
      have KZ6 : Hid (((w5.setCell ⟨gm, 3, none⟩ (.int .i64 (x 3 + SS))).drew).heap[w.heap.size + 1]? = some (.cells #[.string ⟨#[]⟩, .int .i64 0, .int .i64 0, .int .i64 0, .int .i64 0, .int .i64 0] 33 (0, 0))) := Lib.hid ((Below.heap_setCell _ _ _ _ (show w.heap.size + 1 ≠ gm by omega)).trans KZ5.out)
      have B6 := Lib.hid (B5.out.setCell (p := ⟨gm, 3, none⟩) hgm (.int .i64 (x 3 + SS))).drew
      have hwr : IntKind.i64.wrap (x 3 + SS) = x 3 + SS := IntWalk.i64_in _ (by omega)
      have CS5 := Lib.hid (CS.out w5.drew (HA5.out _ B5.out.drew))
      go_region_with (go_at_call 78; refine (CS5.out).mono ?_; rintro e wn ⟨rfl, rfl⟩)
      all_goals
        generalize hw6 : World.drew (w5.setCell _ _) = w6 at KM6 KX6 KZ6 B6 ⊢
        clear hw6 m0 m1 m2 m3 m4 fm KM5 KX5 KZ5 B5 CS CS5 KX4 KZ4 B4 hwr
        obtain ⟨m0, m1, m2, m3, m4⟩ := blk5 KM6.out
        obtain ⟨v0, v1, v2, v3, v4, v5⟩ := blk6 KX6.out
        go_wp2_with fail
        refine (CL.out _).mono ?_
        rintro e w7 ⟨rfl, b7⟩
        have B7 := Lib.hid (below_then B6.out b7)
        have KZ7 := Lib.hid (blk_keep b7 KZ6.out)
        clear b7 m0 m1 m2 m3 m4 v0 v1 v2 v3 v4 v5 CL KM6 KX6 KZ6 B6
        have B8 := Lib.hid (below_then B7.out (below_box w7 (.cells #[.string s, .int .i64 (x 0), .int .i64 (x 1), .int .i64 (x 2), .int .i64 (x 3 + SS), .int .i64 (x 4)] 33)))
        have KZ8 := Lib.hid (blk_keep (below_box w7 (.cells #[.string s, .int .i64 (x 0), .int .i64 (x 1), .int .i64 (x 2), .int .i64 (x 3 + SS), .int .i64 (x 4)] 33)) KZ7.out)
        have KY8 := Lib.hid (heap_alloc_new w7 (.cells #[.string s, .int .i64 (x 0), .int .i64 (x 1), .int .i64 (x 2), .int .i64 (x 3 + SS), .int .i64 (x 4)] 33))
        go_upto_region 8 with fail
        generalize w7.alloc _ = w8 at B8 KZ8 KY8 ⊢
        generalize w7.heap.size = gy at KY8 ⊢
        obtain ⟨v0, v1, v2, v3, v4, v5⟩ := blk6 KY8.out
        go_wp2_with fail
        refine (C4.out _).mono ?_
        rintro e w9 ⟨rfl, b9⟩
        have B9 := Lib.hid (below_then B8.out b9)
        have KZ9 := Lib.hid (blk_keep b9 KZ8.out)
        have KY9 := Lib.hid (blk_keep b9 KY8.out)
        clear b9 v0 v1 v2 v3 v4 v5 C4
        obtain ⟨v0, v1, v2, v3, v4, v5⟩ := blk6 KY9.out
        obtain ⟨z0, z1, z2, z3, z4, z5⟩ := blk6 KZ9.out
        have fz := blk_free KZ9.out
        have hlz := lt_of_heap KZ9.out
        cases r4
        · go_wp2_with fail
          exact bodyPost_ret (v := .tuple #[.agg #[.string ⟨#[]⟩, .int .i64 0, .int .i64 0, .int .i64 0, .int .i64 0, .int .i64 0], .int .i64 5]) (by simp [results, Try.results37, go_sem, z0, z1, z2, z3, z4, z5]) rfl
            (P3.out (by first | rfl | trivial) (by first | rfl | trivial) (by first | rfl | trivial) _ (by repeat (first | (with_reducible exact B9.out) | (with_reducible refine Below.drew ?_) | (with_reducible refine Below.setCell ?_ (by simp <;> omega) _))))
        · go_wp2_with fail
          exact bodyPost_ret (v := .tuple #[.agg #[.string s, .int .i64 (x 0), .int .i64 (x 1), .int .i64 (x 2), .int .i64 (x 3 + SS), .int .i64 (x 4)], .int .i64 0]) (by simp [results, Try.results37, go_sem, z0, z1, z2, z3, z4, z5]) rfl
            (P4.out (by first | rfl | trivial) (by first | rfl | trivial) (by first | rfl | trivial) _ (by repeat (first | (with_reducible exact B9.out) | (with_reducible refine Below.drew ?_) | (with_reducible refine Below.setCell ?_ (by simp <;> omega) _))))
end Go.Proofs.Ytaoknbhpjnileaa.Bq
