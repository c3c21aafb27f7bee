/- A last to which layers have been added: the spec's. -/
import Derived.Test.YtpmmfalpcooenabLyLib
import Derived.Test.YtpmmfalpcooenabLaLib
import Derived.Test.YtpmmfalpcooenabGaLib
import Derived.IntWalk
import Derived.Deep.DeepCutAuto
namespace Go.Proofs.Ytpmmfalpcooenab.Bq
open Go.RowKit Ft Is Ge Qb La Ly

/-- The sum of the first k. -/
def ssum (d : Nat → Int) : Nat → Int
  | 0 => 0
  | k + 1 => ssum d k + d k
theorem ssum_bd {d : Nat → Int} : ∀ k, (∀ j, j < k → inB (d j) 1 200 = true) → 0 ≤ ssum d k ∧ ssum d k ≤ 200 * (k : Int)
  | 0, _ => by simp [ssum]
  | k + 1, h => by
    have h1 := ssum_bd k (fun j hj => h j (by omega))
    have h2 := in_of (h k (by omega))
    simp only [ssum]
    omega
/-- The numbers of the last, one greater. -/
def bm (x : Nat → Int) (gi S : Int) (i : Nat) : Int := if (i : Int) = gi then x i + S else x i
noncomputable def blOk (n : Nat) (d : Nat → Int) (gi : Int) : Bool := tv (Al 1 200 n d) && (decide (n ≤ 100) && inB gi 1 3)
/-- What BuildLast answers. -/
noncomputable def blC (s : ByteArray) (x : Nat → Int) (gi : Int) (n : Nat) (d : Nat → Int) : Int := if laB s x = true then (if blOk n d gi = true then (if laB s (bm x gi (ssum d n)) = true then 0 else 5) else 2) else 1
noncomputable def blS (s : ByteArray) (x : Nat → Int) (gi : Int) (n : Nat) (d : Nat → Int) : ByteArray := if blC s x gi n d = 0 then s else ⟨#[]⟩
noncomputable def blM (s : ByteArray) (x : Nat → Int) (gi : Int) (n : Nat) (d : Nat → Int) : Nat → Int := if blC s x gi n d = 0 then bm x gi (ssum d n) else fun _ => 0
/-- A last and a code: none where the code is not 0. -/
def BlAt (s : ByteArray) (x : Nat → Int) (gi : Int) (n : Nat) (d : Nat → Int) (w : World) (e : Ending) (w' : World) : Prop := e = .returned (.tuple #[laV (blS s x gi n d) (blM s x gi n d), .int .i64 (blC s x gi n d)]) ∧ Below w.heap.size w w'
theorem bl_not {s : ByteArray} {x : Nat → Int} {gi : Int} {n : Nat} {d : Nat → Int} {c : Int} (hc : blC s x gi n d = c) (h0 : c ≠ 0) {w w' : World} (hb : Below w.heap.size w w') : BlAt s x gi n d w (.returned (.tuple #[.agg #[.string ⟨#[]⟩, .int .i64 0, .int .i64 0, .int .i64 0, .int .i64 0, .int .i64 0], .int .i64 c])) w' := by
  have hn : ¬ blC s x gi n d = 0 := by rw [hc]; exact h0
  exact ⟨by unfold blS blM; rw [if_neg hn, if_neg hn, hc], hb⟩
theorem bl_yes {s : ByteArray} {x : Nat → Int} {gi : Int} {n : Nat} {d : Nat → Int} (hc : blC s x gi n d = 0) {w w' : World} (hb : Below w.heap.size w w') : BlAt s x gi n d w (.returned (.tuple #[laV s (bm x gi (ssum d n)), .int .i64 0])) w' :=
  ⟨by unfold blS blM; rw [if_pos hc, if_pos hc, hc], hb⟩
theorem la_bd {s : ByteArray} {x : Nat → Int} (h : laB s x = true) : ∀ i, i < 5 → 0 ≤ x i ∧ x i ≤ 5000 := by
  simp [laB, ftB, inB] at h
  intro i hi
  obtain rfl | rfl | rfl | rfl | rfl : i = 0 ∨ i = 1 ∨ i = 2 ∨ i = 3 ∨ i = 4 := by omega
  all_goals omega
set_option maxRecDepth 100000 in
set_option maxHeartbeats 4000000 in
theorem spec_bl (s : ByteArray) (x : Nat → Int) (gi : Int) (A : Option Addr) (n c : Nat) (d : Nat → Int) (hs : s.size ≤ maxLen) (hn : n ≤ 1048576) (w : World) (hA : Nums w w.heap.size A n d) :
    Calls Try.prog 40 #[laV s x, .int .i64 gi, .slice A n c] w (BlAt s x gi n d w) := by
  have HA := Lib.hid hA
  have C1 := Lib.hid (fun w => one_spec s x hs w)
  have C4 := Lib.hid (fun w => one_spec s (bm x gi (ssum d n)) hs w)
  have CG := Lib.hid (fun w => in_any gi 1 3 w)
  have HX := Lib.hid (fun h => la_bd (s := s) (x := x) h)
  have P1 : Hid (laB s x = false → ∀ w', Below w.heap.size w w' → BlAt s x gi n d w (.returned (.tuple #[.agg #[.string ⟨#[]⟩, .int .i64 0, .int .i64 0, .int .i64 0, .int .i64 0, .int .i64 0], .int .i64 1])) w') := Lib.hid fun h w' hb => bl_not (by simp [blC, h]) (by omega) hb
  have P2 : Hid (laB s x = true → blOk n d gi = false → ∀ w', Below w.heap.size w w' → BlAt s x gi n d w (.returned (.tuple #[.agg #[.string ⟨#[]⟩, .int .i64 0, .int .i64 0, .int .i64 0, .int .i64 0, .int .i64 0], .int .i64 2])) w') := Lib.hid fun h h' w' hb => bl_not (by simp [blC, h, h']) (by omega) hb
  have P3 : Hid (laB s x = true → blOk n d gi = true → laB s (bm x gi (ssum d n)) = false → ∀ w', Below w.heap.size w w' → BlAt s x gi n d w (.returned (.tuple #[.agg #[.string ⟨#[]⟩, .int .i64 0, .int .i64 0, .int .i64 0, .int .i64 0, .int .i64 0], .int .i64 5])) w') := Lib.hid fun h h' h'' w' hb => bl_not (by simp [blC, h, h', h'']) (by omega) hb
  have P4 : Hid (laB s x = true → blOk n d gi = true → laB s (bm x gi (ssum d n)) = true → ∀ w', Below w.heap.size w w' → BlAt s x gi n d w (.returned (.tuple #[laV s (bm x gi (ssum d n)), .int .i64 0])) w') := Lib.hid fun h h' h'' w' hb => bl_yes (by simp [blC, h, h', h'']) hb
  have N1 : Hid (∀ k, k < n → inB (d k) 1 200 = false → blOk n d gi = false) := Lib.hid fun k hk h => by unfold blOk; rw [tv_no fun e => by rw [e k hk] at h; cases h]; rfl
  have N2 : Hid (100 < n → blOk n d gi = false) := Lib.hid fun h => by unfold blOk; rw [decide_eq_false (by omega)]; simp
  have N3 : Hid (inB gi 1 3 = false → blOk n d gi = false) := Lib.hid fun h => by unfold blOk; rw [h]; simp
  have NY : Hid ((∀ j, j < n → inB (d j) 1 200 = true) → n ≤ 100 → inB gi 1 3 = true → blOk n d gi = true) := Lib.hid fun h1 h2 h3 => by unfold blOk; rw [tv_yes (show Al 1 200 n d from h1), decide_eq_true h2, h3]; rfl
  have HS : Hid (∀ k, (∀ j, j < k → inB (d j) 1 200 = true) → 0 ≤ ssum d k ∧ ssum d k ≤ 200 * (k : Int)) := Lib.hid fun k h => ssum_bd k h
  have HSs : Hid (∀ k, ssum d (k + 1) = ssum d k + d k) := Lib.hid fun k => rfl
  have HS0 : Hid (ssum d 0 = 0) := Lib.hid rfl
  have HGi : Hid (inB gi 1 3 = true → gi = 1 ∨ gi = 2 ∨ gi = 3) := Lib.hid fun h => by have := in_of h; omega
  obtain ⟨kx, kz⟩ := Ge.two w (laC s x 53) (.cells #[.string ⟨#[]⟩, .int .i64 0, .int .i64 0, .int .i64 0, .int .i64 0, .int .i64 0] 53)
  have B0 := Lib.hid (Ge.below2 w (laC s x 53) (.cells #[.string ⟨#[]⟩, .int .i64 0, .int .i64 0, .int .i64 0, .int .i64 0, .int .i64 0] 53))
  have KX := Lib.hid kx
  have KZ := Lib.hid kz
  clear kx kz hA
  generalize BlAt s x gi n d w = Q at P1 P2 P3 P4 ⊢
  generalize blOk n d gi = r2 at P2 P3 P4 N1 N2 N3 NY
  generalize hr1 : laB s x = r1 at C1 HX P1 P2 P3 P4
  clear hr1
  generalize hr4 : laB s (bm x gi (ssum d n)) = r4 at C4 P3 P4
  clear hr4
  generalize hSS : ssum d = SS at HS HSs HS0 C4 P4
  clear hSS
  simp only [laV] at C1 ⊢
  simp only [laC] at KX B0
  go_enter Try.func40, Try.ntmps40
  go_upto_region 1 with fail
  generalize hw2 : (w.alloc _).alloc _ = w2 at KX KZ B0 ⊢
  clear hw2
  obtain ⟨v0, v1, v2, v3, v4, v5⟩ := blk6 KX.out
  go_wp2_with fail
  refine (C1.out _).mono ?_
  rintro e w3 ⟨rfl, b3⟩
  have B3 := Lib.hid (below_then B0.out b3)
  have KX3 := Lib.hid (blk_keep b3 KX.out)
  have KZ3 := Lib.hid (blk_keep b3 KZ.out)
  clear b3 v0 v1 v2 v3 v4 v5 KX KZ B0 C1
  obtain ⟨z0, z1, z2, z3, z4, z5⟩ := blk6 KZ3.out
  have fz := blk_free KZ3.out
  have hlz := lt_of_heap KZ3.out
  cases r1
  · go_wp2_with fail
    exact bodyPost_ret (v := .tuple #[.agg #[.string ⟨#[]⟩, .int .i64 0, .int .i64 0, .int .i64 0, .int .i64 0, .int .i64 0], .int .i64 1]) (by simp [results, Try.results40, go_sem, z0, z1, z2, z3, z4, z5]) rfl
      (P1.out (by first | rfl | trivial) _ (by repeat (first | (with_reducible exact B3.out) | (with_reducible refine Below.drew ?_) | (with_reducible refine Below.setCell ?_ (by simp <;> omega) _))))
  have HXb := Lib.hid (HX.out (by first | rfl | trivial))
  go_wp2_with fail
  go_loop [8, 9] (fun a i => ∃ k : Nat, k ≤ n ∧ i = .int .i64 (k : Int) ∧ a = .int .i64 (SS k) ∧ Hid (∀ j, j < k → inB (d j) 1 200 = true)) (fun _ i => n - (intOf i).toNat)
  case atStart => exact ⟨0, Nat.zero_le _, rfl, by rw [HS0.out], Lib.hid fun j hj => by omega⟩
  case round =>
    obtain ⟨k, hk, rfl, rfl, hall⟩ := hrel
    obtain ⟨t1, t2⟩ := HS.out k hall.out
    by_cases hlt : k < n
    · obtain ⟨b, off, rfl, hb, hc⟩ := (HA.out.below B3.out (Nat.le_refl _)) (by omega)
      have y0 := hc k hlt
      have e0 : (0 : Int) ≤ (k : Int) := Int.natCast_nonneg _
      have e1 : (k : Int) < (n : Int) := by omega
      have CI := Lib.hid (fun w => in_any (d k) 1 200 w)
      have N1k := Lib.hid (N1.out k hlt)
      have HT := Lib.hid (step_all (p := fun j => inB (d j) 1 200) hall.out (k := k))
      have HB := Lib.hid (fun h => in_of (n := d k) (a := 1) (b := 200) h)
      have HSk := Lib.hid (HSs.out k)
      generalize inB (d k) 1 200 = q at CI N1k HT HB
      generalize d k = u at y0 CI HB HSk
      clear hc
      go_wp2_with fail
      refine (CI.out _).mono ?_
      rintro e w' ⟨rfl, rfl⟩
      cases q
      · go_wp2_with fail
        exact bodyPost_ret (v := .tuple #[.agg #[.string ⟨#[]⟩, .int .i64 0, .int .i64 0, .int .i64 0, .int .i64 0, .int .i64 0], .int .i64 2]) (by simp [results, Try.results40, go_sem, z0, z1, z2, z3, z4, z5]) rfl
          (P2.out (by first | rfl | trivial) (N1k.out (by first | rfl | trivial)) _ (by repeat (first | (with_reducible exact B3.out) | (with_reducible refine Below.drew ?_) | (with_reducible refine Below.setCell ?_ (by simp <;> omega) _))))
      · have HD := Lib.hid (HT.out (by first | rfl | trivial))
        obtain ⟨u1, u2⟩ := HB.out (by first | rfl | trivial)
        go_wp2_with fail
        go_round
        case rel => exact ⟨k + 1, by omega, by go_num, by rw [HSk.out], HD⟩
        case measure => simp [intOf]; omega
    · obtain rfl : k = n := by omega
      have CG' := CG
      generalize hrg : inB gi 1 3 = rg at CG N3 NY HGi
      by_cases h100 : 100 < k
      · have HN := Lib.hid (N2.out h100)
        have h100' : (100 : Int) < (k : Int) := by omega
        go_wp2_with fail
        exact bodyPost_ret (v := .tuple #[.agg #[.string ⟨#[]⟩, .int .i64 0, .int .i64 0, .int .i64 0, .int .i64 0, .int .i64 0], .int .i64 2]) (by simp [results, Try.results40, go_sem, z0, z1, z2, z3, z4, z5]) rfl
          (P2.out (by first | rfl | trivial) HN.out _ (by repeat (first | (with_reducible exact B3.out) | (with_reducible refine Below.drew ?_) | (with_reducible refine Below.setCell ?_ (by simp <;> omega) _))))
      have h100' : ¬ (100 : Int) < (k : Int) := by omega
      go_wp2_with fail
      refine (CG.out _).mono ?_
      rintro e w' ⟨rfl, rfl⟩
      cases rg
      · have HN := Lib.hid (N3.out (by first | rfl | trivial))
        go_wp2_with fail
        exact bodyPost_ret (v := .tuple #[.agg #[.string ⟨#[]⟩, .int .i64 0, .int .i64 0, .int .i64 0, .int .i64 0, .int .i64 0], .int .i64 2]) (by simp [results, Try.results40, go_sem, z0, z1, z2, z3, z4, z5]) rfl
          (P2.out (by first | rfl | trivial) HN.out _ (by repeat (first | (with_reducible exact B3.out) | (with_reducible refine Below.drew ?_) | (with_reducible refine Below.setCell ?_ (by simp <;> omega) _))))
      have HY := Lib.hid (NY.out hall.out (by omega) (by first | rfl | trivial))
      have HG3 := HGi.out (by first | rfl | trivial)
      clear N1 N2 N3 NY HGi hrg CG CG' hall
      obtain ⟨v0, v1, v2, v3, v4, v5⟩ := blk6 KX3.out
      have fx := blk_free KX3.out
      have hlx := lt_of_heap KX3.out
      obtain ⟨p1, p2⟩ := HXb.out 1 (by omega)
      obtain ⟨p3, p4⟩ := HXb.out 2 (by omega)
      obtain ⟨p5, p6⟩ := HXb.out 3 (by omega)
      have nxz : w.heap.size ≠ w.heap.size + 1 := by omega
      have HBM : Hid (∀ i : Nat, bm x gi (SS k) i = if (i : Int) = gi then x i + SS k else x i) := Lib.hid fun i => rfl
      rcases HG3 with rfl | rfl | rfl
      · have hlv : laV s (bm x 1 (SS k)) = .agg #[.string s, .int .i64 (x 0), .int .i64 (x 1 + SS k), .int .i64 (x 2), .int .i64 (x 3), .int .i64 (x 4)] := by simp [laV, bm]
        rw [hlv] at C4 P4
        clear hlv HBM
        have KX4 := Lib.hid (Ge.heap_set KX3.out 2 (.int .i64 (x 1 + SS k)))
        have B4 := Lib.hid (B3.out.setCell (p := ⟨w.heap.size, 2, none⟩) (Nat.le_refl _) (.int .i64 (x 1 + SS k)))
        have KZ4 : Hid ((w3.setCell ⟨w.heap.size, 2, none⟩ (.int .i64 (x 1 + SS k))).heap[w.heap.size + 1]? = some (.cells #[.string ⟨#[]⟩, .int .i64 0, .int .i64 0, .int .i64 0, .int .i64 0, .int .i64 0] 53 (0, 0))) := Lib.hid ((Below.heap_setCell _ _ _ _ (Ne.symm nxz)).trans KZ3.out)
        go_upto_region 19 with fail
        generalize hw4 : w3.setCell _ _ = w4 at KX4 B4 KZ4 ⊢
        clear hw4 v0 v1 v2 v3 v4 v5 fx hlx z0 z1 z2 z3 z4 z5 fz hlz KX3 KZ3 B3
        have KX5 : Hid (w4.heap[w.heap.size]? = some (.cells #[.string s, .int .i64 (x 0), .int .i64 (x 1 + SS k), .int .i64 (x 2), .int .i64 (x 3), .int .i64 (x 4)] 53 (0, 0))) := KX4
        obtain ⟨v0, v1, v2, v3, v4, v5⟩ := blk6 KX5.out
        go_wp2_with fail
        refine (C4.out _).mono ?_
        rintro e w5 ⟨rfl, b5⟩
        have B5 := Lib.hid (below_then B4.out b5)
        have KX6 := Lib.hid (blk_keep b5 KX5.out)
        have KZ6 := Lib.hid (blk_keep b5 KZ4.out)
        clear b5 v0 v1 v2 v3 v4 v5 KX4 KX5 KZ4 B4 C4
        obtain ⟨v0, v1, v2, v3, v4, v5⟩ := blk6 KX6.out
        obtain ⟨z0, z1, z2, z3, z4, z5⟩ := blk6 KZ6.out
        have fz := blk_free KZ6.out
        have hlz := lt_of_heap KZ6.out
        cases r4
        · go_wp2_with fail
          exact bodyPost_ret (v := .tuple #[.agg #[.string ⟨#[]⟩, .int .i64 0, .int .i64 0, .int .i64 0, .int .i64 0, .int .i64 0], .int .i64 5]) (by simp [results, Try.results40, go_sem, z0, z1, z2, z3, z4, z5]) rfl
            (P3.out (by first | rfl | trivial) HY.out (by first | rfl | trivial) _ (by repeat (first | (with_reducible exact B5.out) | (with_reducible refine Below.drew ?_) | (with_reducible refine Below.setCell ?_ (by simp <;> omega) _))))
        · go_wp2_with fail
          exact bodyPost_ret (v := .tuple #[.agg #[.string s, .int .i64 (x 0), .int .i64 (x 1 + SS k), .int .i64 (x 2), .int .i64 (x 3), .int .i64 (x 4)], .int .i64 0]) (by simp [results, Try.results40, go_sem, z0, z1, z2, z3, z4, z5]) rfl
            (P4.out (by first | rfl | trivial) HY.out (by first | rfl | trivial) _ (by repeat (first | (with_reducible exact B5.out) | (with_reducible refine Below.drew ?_) | (with_reducible refine Below.setCell ?_ (by simp <;> omega) _))))
      · have hlv : laV s (bm x 2 (SS k)) = .agg #[.string s, .int .i64 (x 0), .int .i64 (x 1), .int .i64 (x 2 + SS k), .int .i64 (x 3), .int .i64 (x 4)] := by simp [laV, bm]
        rw [hlv] at C4 P4
        clear hlv HBM
        have KX4 := Lib.hid (Ge.heap_set KX3.out 3 (.int .i64 (x 2 + SS k)))
        have B4 := Lib.hid (B3.out.setCell (p := ⟨w.heap.size, 3, none⟩) (Nat.le_refl _) (.int .i64 (x 2 + SS k)))
        have KZ4 : Hid ((w3.setCell ⟨w.heap.size, 3, none⟩ (.int .i64 (x 2 + SS k))).heap[w.heap.size + 1]? = some (.cells #[.string ⟨#[]⟩, .int .i64 0, .int .i64 0, .int .i64 0, .int .i64 0, .int .i64 0] 53 (0, 0))) := Lib.hid ((Below.heap_setCell _ _ _ _ (Ne.symm nxz)).trans KZ3.out)
        go_upto_region 19 with fail
        generalize hw4 : w3.setCell _ _ = w4 at KX4 B4 KZ4 ⊢
        clear hw4 v0 v1 v2 v3 v4 v5 fx hlx z0 z1 z2 z3 z4 z5 fz hlz KX3 KZ3 B3
        have KX5 : Hid (w4.heap[w.heap.size]? = some (.cells #[.string s, .int .i64 (x 0), .int .i64 (x 1), .int .i64 (x 2 + SS k), .int .i64 (x 3), .int .i64 (x 4)] 53 (0, 0))) := KX4
        obtain ⟨v0, v1, v2, v3, v4, v5⟩ := blk6 KX5.out
        go_wp2_with fail
        refine (C4.out _).mono ?_
        rintro e w5 ⟨rfl, b5⟩
        have B5 := Lib.hid (below_then B4.out b5)
        have KX6 := Lib.hid (blk_keep b5 KX5.out)
        have KZ6 := Lib.hid (blk_keep b5 KZ4.out)
        clear b5 v0 v1 v2 v3 v4 v5 KX4 KX5 KZ4 B4 C4
        obtain ⟨v0, v1, v2, v3, v4, v5⟩ := blk6 KX6.out
        obtain ⟨z0, z1, z2, z3, z4, z5⟩ := blk6 KZ6.out
        have fz := blk_free KZ6.out
        have hlz := lt_of_heap KZ6.out
        cases r4
        · go_wp2_with fail
          exact bodyPost_ret (v := .tuple #[.agg #[.string ⟨#[]⟩, .int .i64 0, .int .i64 0, .int .i64 0, .int .i64 0, .int .i64 0], .int .i64 5]) (by simp [results, Try.results40, go_sem, z0, z1, z2, z3, z4, z5]) rfl
            (P3.out (by first | rfl | trivial) HY.out (by first | rfl | trivial) _ (by repeat (first | (with_reducible exact B5.out) | (with_reducible refine Below.drew ?_) | (with_reducible refine Below.setCell ?_ (by simp <;> omega) _))))
        · go_wp2_with fail
          exact bodyPost_ret (v := .tuple #[.agg #[.string s, .int .i64 (x 0), .int .i64 (x 1), .int .i64 (x 2 + SS k), .int .i64 (x 3), .int .i64 (x 4)], .int .i64 0]) (by simp [results, Try.results40, go_sem, z0, z1, z2, z3, z4, z5]) rfl
            (P4.out (by first | rfl | trivial) HY.out (by first | rfl | trivial) _ (by repeat (first | (with_reducible exact B5.out) | (with_reducible refine Below.drew ?_) | (with_reducible refine Below.setCell ?_ (by simp <;> omega) _))))
      · have hlv : laV s (bm x 3 (SS k)) = .agg #[.string s, .int .i64 (x 0), .int .i64 (x 1), .int .i64 (x 2), .int .i64 (x 3 + SS k), .int .i64 (x 4)] := by simp [laV, bm]
        rw [hlv] at C4 P4
        clear hlv HBM
        have KX4 := Lib.hid (Ge.heap_set KX3.out 4 (.int .i64 (x 3 + SS k)))
        have B4 := Lib.hid (B3.out.setCell (p := ⟨w.heap.size, 4, none⟩) (Nat.le_refl _) (.int .i64 (x 3 + SS k)))
        have KZ4 : Hid ((w3.setCell ⟨w.heap.size, 4, none⟩ (.int .i64 (x 3 + SS k))).heap[w.heap.size + 1]? = some (.cells #[.string ⟨#[]⟩, .int .i64 0, .int .i64 0, .int .i64 0, .int .i64 0, .int .i64 0] 53 (0, 0))) := Lib.hid ((Below.heap_setCell _ _ _ _ (Ne.symm nxz)).trans KZ3.out)
        go_upto_region 19 with fail
        generalize hw4 : w3.setCell _ _ = w4 at KX4 B4 KZ4 ⊢
        clear hw4 v0 v1 v2 v3 v4 v5 fx hlx z0 z1 z2 z3 z4 z5 fz hlz KX3 KZ3 B3
        have KX5 : Hid (w4.heap[w.heap.size]? = some (.cells #[.string s, .int .i64 (x 0), .int .i64 (x 1), .int .i64 (x 2), .int .i64 (x 3 + SS k), .int .i64 (x 4)] 53 (0, 0))) := KX4
        obtain ⟨v0, v1, v2, v3, v4, v5⟩ := blk6 KX5.out
        go_wp2_with fail
        refine (C4.out _).mono ?_
        rintro e w5 ⟨rfl, b5⟩
        have B5 := Lib.hid (below_then B4.out b5)
        have KX6 := Lib.hid (blk_keep b5 KX5.out)
        have KZ6 := Lib.hid (blk_keep b5 KZ4.out)
        clear b5 v0 v1 v2 v3 v4 v5 KX4 KX5 KZ4 B4 C4
        obtain ⟨v0, v1, v2, v3, v4, v5⟩ := blk6 KX6.out
        obtain ⟨z0, z1, z2, z3, z4, z5⟩ := blk6 KZ6.out
        have fz := blk_free KZ6.out
        have hlz := lt_of_heap KZ6.out
        cases r4
        · go_wp2_with fail
          exact bodyPost_ret (v := .tuple #[.agg #[.string ⟨#[]⟩, .int .i64 0, .int .i64 0, .int .i64 0, .int .i64 0, .int .i64 0], .int .i64 5]) (by simp [results, Try.results40, go_sem, z0, z1, z2, z3, z4, z5]) rfl
            (P3.out (by first | rfl | trivial) HY.out (by first | rfl | trivial) _ (by repeat (first | (with_reducible exact B5.out) | (with_reducible refine Below.drew ?_) | (with_reducible refine Below.setCell ?_ (by simp <;> omega) _))))
        · go_wp2_with fail
          exact bodyPost_ret (v := .tuple #[.agg #[.string s, .int .i64 (x 0), .int .i64 (x 1), .int .i64 (x 2), .int .i64 (x 3 + SS k), .int .i64 (x 4)], .int .i64 0]) (by simp [results, Try.results40, go_sem, z0, z1, z2, z3, z4, z5]) rfl
            (P4.out (by first | rfl | trivial) HY.out (by first | rfl | trivial) _ (by repeat (first | (with_reducible exact B5.out) | (with_reducible refine Below.drew ?_) | (with_reducible refine Below.setCell ?_ (by simp <;> omega) _))))
end Go.Proofs.Ytpmmfalpcooenab.Bq
