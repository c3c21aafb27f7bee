/- ReadFoot: the program's walk. -/
import Derived.Test.YtcnbnpeilkdfiaaDoorRkLib
namespace Go.Proofs.YtcnbnpeilkdfiaaDoor.Rj
open Go.RowKit Ba Dc Ds Rn Rs Tb Ri St Rz Rf Rg
set_option linter.unusedVariables false

theorem back_any (l b i h : Int) (w : World) : Calls Tryd.prog 32 #[.agg #[.int .i64 l, .int .i64 b, .int .i64 i, .int .i64 h]] w fun e w' => e = .returned (.agg #[.int .i64 l, .int .i64 b, .int .i64 i, .int .i64 h]) ∧ Below w.heap.size w w' := by
  go_enter Tryd.func32, Tryd.ntmps32
  go_wp2
  exact bodyPost_ret (v := .agg #[.int .i64 l, .int .i64 b, .int .i64 i, .int .i64 h]) (by simp [results, Tryd.results32, go_sem]) rfl ⟨rfl, by repeat (first | exact Below.refl _ _ | exact below_box _ _ | refine Below.setCell ?_ (by simp <;> omega) _ | refine Below.alloc ?_ (by simp <;> omega) _)⟩
abbrev MaxAt := Rk.MaxAt
theorem rs_foot (L : List UInt8) : rfB L = (Rk.rsB L && rfV L) := by simp [rfB, Rk.rsB, List.range_succ, Bool.and_assoc]

set_option maxRecDepth 100000 in
set_option maxHeartbeats 4000000 in
theorem impl_foot (s : ByteArray) (hs : s.size ≤ 1048576) (w : World) (hV : Vars w) (hM : MaxAt w) : Calls Tryd.prog 10 #[.string s] w fun e w' => e = .returned (.tuple #[.agg #[.int .i64 (rfN s.data.toList 0), .int .i64 (rfN s.data.toList 1), .int .i64 (rfN s.data.toList 2), .int .i64 (rfN s.data.toList 3)], .bool (rfB s.data.toList)]) ∧ Below w.heap.size w w' := by
  have SL := Lib.hid fun (w0 w : World) (g : Nat) hV hM h0 h0g hk => Rk.slashed_any s hs g 59 w0 w hV hM h0 h0g hk
  clear hs
  generalize s.data.toList = L at SL ⊢
  have NR : Hid (Rk.rsB L = false → No L) := Lib.hid fun h => no_of (by rw [rs_foot, h]; rfl)
  have NF := Lib.hid fun h => no_ft (L := L) h
  have YA : Hid (Rk.rsB L = true → rfV L = true → rfB L = true ∧ ∀ j, rfN L j = rfF L j) := Lib.hid fun h hv => by
    have hb : rfB L = true := by rw [rs_foot, h, hv]; rfl
    exact ⟨hb, fun j => by unfold rfN; rw [hb]; rfl⟩
  have FT : Hid (∀ w, Calls Tryd.prog 30 #[.agg #[.int .i64 (rfF L 0), .int .i64 (rfF L 1), .int .i64 (rfF L 2), .int .i64 (rfF L 3)]] w fun e w' => e = .returned (.bool (rfV L)) ∧ Below w.heap.size w w') := Lib.hid fun w => Ft.impl_valid (rfF L 0) (rfF L 1) (rfF L 2) (rfF L 3) w
  unfold No at NR NF
  generalize rfF L = F at SL YA FT
  generalize rfV L = fv at NF YA FT
  generalize rfN L = N at NR NF YA ⊢
  generalize rfB L = b at NR NF YA ⊢
  generalize Rk.rsB L = q at SL NR YA
  have B2 := below_then (below_box w (.cells #[.int .i64 0, .int .i64 0, .int .i64 0, .int .i64 0] 25)) (below_box _ (.cells #[.int .i64 0, .int .i64 0, .int .i64 0, .int .i64 0] 59))
  obtain ⟨_, kf, km⟩ := boxes2 (Below.refl ((w.alloc (.cells #[.int .i64 0, .int .i64 0, .int .i64 0, .int .i64 0] 25)).alloc (.cells #[.int .i64 0, .int .i64 0, .int .i64 0, .int .i64 0] 59)).heap.size _)
  have S1 := Lib.hid (SL.out w _ (w.heap.size + 1) hV (hM.below B2) B2 (by omega) km)
  have HB2 := Lib.hid B2
  have KF := Lib.hid kf
  clear hV hM B2 kf km SL
  go_enter Tryd.func10, Tryd.ntmps10
  go_wp2_with fail
  refine S1.out.mono ?_
  rintro e w3 ⟨k, hk, rfl, hkq, km, b3⟩
  have HB3 := Lib.hid (HB2.out.trans (b3.mono (by omega)))
  have KR3 := Lib.hid ((b3.block w.heap.size (by omega)).trans KF.out)
  have KM3 := Lib.hid km
  clear S1 HB2 KF km b3
  have hsz3 := HB3.out.size
  have hl3 := lt_of_heap KR3.out
  cases q
  · have Z := Lib.hid (NR.out rfl)
    clear NR NF YA FT KM3 hkq
    obtain ⟨z0, z1, z2, z3⟩ := blk4 KR3.out
    have hfr := blk_free KR3.out
    go_wp2_with fail
    rw [Z.out.1, Z.out.2, Z.out.2, Z.out.2, Z.out.2]
    exact bodyPost_ret (v := .tuple #[.agg #[.int .i64 0, .int .i64 0, .int .i64 0, .int .i64 0], .bool false]) (by simp [results, Tryd.results10, go_sem, z0, z1, z2, z3]) rfl
      ⟨rfl, (((HB3.out.setCell (by simp) _).setCell (by simp) _).setCell (by simp) _).setCell (by simp) _⟩
  · obtain rfl := hkq rfl
    have YA2 := Lib.hid fun hv => YA.out rfl hv
    have KM' : Hid (w3.heap[w.heap.size + 1]? = some (.cells #[.int .i64 (F 0), .int .i64 (F 1), .int .i64 (F 2), .int .i64 (F 3)] 59 (0, 0))) := KM3
    obtain ⟨x0, x1, x2, x3⟩ := blk4 KM'.out
    clear hk hkq YA NR KM3
    go_wp2_with fail
    refine (back_any _ _ _ _ _).mono ?_
    rintro e w4 ⟨rfl, b4⟩
    have HB4 := Lib.hid (below_then HB3.out b4)
    have KR4 := Lib.hid (Ba.blk_keep b4 KR3.out)
    have hz4 := HB4.out.size
    have hl4 := lt_of_heap KR4.out
    clear b4 x0 x1 x2 x3
    cases hfv : fv
    all_goals
      rw [hfv] at FT
      go_wp2_with fail
      refine (FT.out _).mono ?_
      rintro e w5 ⟨rfl, b5⟩
      obtain ⟨hb5, k5⟩ := boxes1 b5
      have HB5 := Lib.hid (below_then HB4.out hb5)
      have KR5 := Lib.hid (Ba.blk_keep hb5 KR4.out)
      have hz5 := HB5.out.size
      have hl5 := lt_of_heap KR5.out
      obtain ⟨z0, z1, z2, z3⟩ := blk4 KR5.out
      obtain ⟨y0, y1, y2, y3⟩ := blk4 k5
      have hfr := blk_free KR5.out
      have hl6 := lt_of_heap k5
      clear b5 hb5 k5
    · have Z := Lib.hid (NF.out hfv)
      clear hfv NF YA2 FT
      go_wp2_with fail
      rw [Z.out.1, Z.out.2, Z.out.2, Z.out.2, Z.out.2]
      exact bodyPost_ret (v := .tuple #[.agg #[.int .i64 0, .int .i64 0, .int .i64 0, .int .i64 0], .bool false]) (by simp [results, Tryd.results10, go_sem, z0, z1, z2, z3]) rfl
        ⟨rfl, (((HB5.out.setCell (by simp) _).setCell (by simp) _).setCell (by simp) _).setCell (by simp) _⟩
    · have Z := Lib.hid (YA2.out hfv)
      clear hfv NF YA2 FT
      go_wp2_with fail
      rw [Z.out.1, Z.out.2, Z.out.2, Z.out.2, Z.out.2]
      exact bodyPost_ret (v := .tuple #[.agg #[.int .i64 (F 0), .int .i64 (F 1), .int .i64 (F 2), .int .i64 (F 3)], .bool true]) (by simp [results, Tryd.results10, go_sem, z0, z1, z2, z3]) rfl
        ⟨rfl, (((HB5.out.setCell (by simp) _).setCell (by simp) _).setCell (by simp) _).setCell (by simp) _⟩

end Go.Proofs.YtcnbnpeilkdfiaaDoor.Rj
