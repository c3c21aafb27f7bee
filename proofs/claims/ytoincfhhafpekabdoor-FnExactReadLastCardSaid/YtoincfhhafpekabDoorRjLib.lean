/- ReadFoot: the program's walk. -/
import Derived.Test.YtoincfhhafpekabDoorRhLib
import Derived.Test.YtoincfhhafpekabDoorRgLib
namespace Go.Proofs.YtoincfhhafpekabDoor.Rj
open Go.RowKit Ba Dc Ds Rn Rs Tb Ri St Rz Rf Rh Rg
set_option linter.unusedVariables false

theorem back_any (l b i h : Int) (w : World) : Calls Tryd.prog 42 #[.agg #[.int .i64 l, .int .i64 b, .int .i64 i, .int .i64 h]] w fun e w' => e = .returned (.agg #[.int .i64 l, .int .i64 b, .int .i64 i, .int .i64 h]) ∧ Below w.heap.size w w' := by
  go_enter Tryd.func42, Tryd.ntmps42
  go_wp2
  exact bodyPost_ret (v := .agg #[.int .i64 l, .int .i64 b, .int .i64 i, .int .i64 h]) (by simp [results, Tryd.results42, go_sem]) rfl ⟨rfl, by repeat (first | exact Below.refl _ _ | exact below_box _ _ | refine Below.setCell ?_ (by simp <;> omega) _ | refine Below.alloc ?_ (by simp <;> omega) _)⟩
def MaxAt (w : World) : Prop := ∃ m : Int, w.cell? ⟨0, 0, none⟩ = some (.int .i64 m)
theorem MaxAt.below {w w' : World} (h : MaxAt w) (hb : Below w.heap.size w w') : MaxAt w' := by
  obtain ⟨m, hm⟩ := h
  exact ⟨m, (hb.cell (p := ⟨_, 0, none⟩) (World.block_lt_of_cell? w _ hm)).trans hm⟩
theorem splitn_any (s : ByteArray) (hs : s.size ≤ 1048576) (w : World) (hM : MaxAt w) :
    Calls Tryd.prog 41 #[.string s, .string ⟨#[47]⟩, .int .i64 5] w fun e w' => ∃ g cs cap, e = .returned (.slice (some ⟨g, 0, none⟩) (prt s).length cap) ∧ w.heap.size ≤ g ∧ w'.heap[g]? = some (.cells cs 9 (0, 0)) ∧ (∀ j, j < (prt s).length → cs[j]? = ((prt s)[j]?).map Value.string) ∧ Below w.heap.size w w' := by
  obtain ⟨m, hm⟩ := hM
  refine (Tryd.strings_SplitN s ⟨#[47]⟩ 5 m w (by omega) hm (by decide) (by omega) (by omega)).mono ?_
  rintro e w' ⟨rfl, rfl⟩
  refine ⟨w.heap.size, _, _, rfl, Nat.le_refl _, blk_new _ _, fun j hj => ?_, below_box _ _⟩
  show (Lib.cellsOf (prt s) _)[j]? = _
  unfold Lib.cellsOf
  rw [List.getElem?_toArray, List.getElem?_append_left (by simpa using hj), List.getElem?_map]
/-- The measures of which k are read. -/
def ms (F : Nat → Int) (k : Nat) : Array Value := #[.int .i64 (if 0 < k then F 0 else 0), .int .i64 (if 1 < k then F 1 else 0), .int .i64 (if 2 < k then F 2 else 0), .int .i64 (if 3 < k then F 3 else 0)]
theorem ms_at (F : Nat → Int) {k : Nat} (h : k < 4) : (ms F k)[k]? = some (.int .i64 0) := by
  obtain rfl | rfl | rfl | rfl : k = 0 ∨ k = 1 ∨ k = 2 ∨ k = 3 := by omega
  all_goals rfl
theorem ms_set (F : Nat → Int) {k : Nat} (h : k < 4) : (ms F k).setIfInBounds k (.int .i64 (F k)) = ms F (k + 1) := by
  obtain rfl | rfl | rfl | rfl : k = 0 ∨ k = 1 ∨ k = 2 ∨ k = 3 := by omega
  all_goals rfl
theorem heap_set {w : World} {g : Nat} {t : TypeId} {cs : Array Value} (h : w.heap[g]? = some (.cells cs t (0, 0))) (i : Nat) (u : Value) : (w.setCell ⟨g, i, none⟩ u).heap[g]? = some (.cells (cs.setIfInBounds i u) t (0, 0)) := by
  simp [World.setCell, Array.getElem?_modify, h]
theorem heap_other {w : World} {g b : Nat} {o : Obj} (h : w.heap[g]? = some o) (hn : b ≠ g) (i : Nat) (u : Value) : (w.setCell ⟨b, i, none⟩ u).heap[g]? = some o := by
  simp [World.setCell, Array.getElem?_modify, h, hn]

set_option maxRecDepth 100000 in
set_option maxHeartbeats 4000000 in
theorem impl_foot (s : ByteArray) (hs : s.size ≤ 1048576) (w : World) (hV : Vars w) (hM : MaxAt w) : Calls Tryd.prog 22 #[.string s] w fun e w' => e = .returned (.tuple #[.agg #[.int .i64 (rfN s.data.toList 0), .int .i64 (rfN s.data.toList 1), .int .i64 (rfN s.data.toList 2), .int .i64 (rfN s.data.toList 3)], .bool (rfB s.data.toList)]) ∧ Below w.heap.size w w' := by
  have SN := Lib.hid fun w hM => splitn_any s hs w hM
  have P4 := Lib.hid (prt_four s)
  have PG := Lib.hid fun h j hj => prt_get (s := s) h (j := j) hj
  have hsl : s.data.toList.length ≤ 1048576 := by simpa using hs
  clear hs
  generalize s.data.toList = L at P4 PG hsl ⊢
  have R : Hid (∀ (k : Nat) w, Vars w → Calls Tryd.prog 23 #[.string ⟨(rfP L k).toArray⟩] w fun e w' => e = .returned (.tuple #[.int .i64 (rfF L k), .bool (rdB (rfP L k))]) ∧ Below w.heap.size w w') := Lib.hid fun (k : Nat) w hV => read_any ⟨(rfP L k).toArray⟩ (by show (rfP L k).length ≤ _; have := rfP_len L k; omega) w hV
  have NL := Lib.hid fun h => no_len (L := L) h
  have NR := Lib.hid fun k hk h => no_rd (L := L) (k := k) hk h
  have NF := Lib.hid fun h => no_ft (L := L) h
  have YA := Lib.hid fun h4 h hv => yes_all (L := L) h4 h hv
  have FT : Hid (∀ w, Calls Tryd.prog 31 #[.agg #[.int .i64 (rfF L 0), .int .i64 (rfF L 1), .int .i64 (rfF L 2), .int .i64 (rfF L 3)]] w fun e w' => e = .returned (.bool (rfV L)) ∧ Below w.heap.size w w') := Lib.hid fun w => Ft.impl_valid (rfF L 0) (rfF L 1) (rfF L 2) (rfF L 3) w
  clear hsl
  unfold No at NL NR NF
  generalize rfF L = F at R YA FT
  generalize rfP L = p at R NR YA PG
  generalize rfV L = fv at NF YA FT
  generalize rfN L = N at NL NR NF YA ⊢
  generalize rfB L = b at NL NR NF YA ⊢
  generalize (spl 47 L).length = n at P4 NL YA
  generalize prt s = ps at SN P4 PG
  have HV := Lib.hid hV
  have HM := Lib.hid hM
  clear hV hM
  have HM2 := Lib.hid (HM.out.below (below_then (below_box w (.cells #[.int .i64 0, .int .i64 0, .int .i64 0, .int .i64 0] 37)) (below_box _ (.cells #[.int .i64 0, .int .i64 0, .int .i64 0, .int .i64 0] 56))))
  go_enter Tryd.func22, Tryd.ntmps22
  go_wp2_with fail
  refine (SN.out _ HM2.out).mono ?_
  rintro e w3 ⟨g, cs, cap, rfl, hg, kp, hcs, b3⟩
  obtain ⟨hb3, k3, r3⟩ := boxes2 b3
  have hg' : w.heap.size + 1 < g := by simp at hg; omega
  have HB3 := Lib.hid hb3
  have KR3 := Lib.hid k3
  have KM3 := Lib.hid r3
  have KP3 := Lib.hid kp
  have CS := Lib.hid hcs
  clear hb3 k3 r3 kp hcs b3 hg HM HM2 SN
  have hsz3 := HB3.out.size
  by_cases h4 : ps.length = 4
  · have CP : Hid (∀ j, j < 4 → cs[j]? = some (.string ⟨(p j).toArray⟩)) := Lib.hid fun j hj => by
      rw [CS.out j (by omega), PG.out h4 j hj]; rfl
    have hn := P4.out.1 h4
    have YA' := Lib.hid fun h hv => YA.out hn h hv
    rw [h4]
    clear CS PG P4 h4 NL YA hn
    go_wp2_with fail
    go_loopw [6, 7, 8, 9, 19] (fun _ _ _ _ i wr => ∃ k : Nat, k ≤ 4 ∧ i = .int .i64 (k : Int) ∧ Hid (Below w.heap.size w wr) ∧ Hid (wr.heap[w.heap.size]? = some (.cells #[.int .i64 0, .int .i64 0, .int .i64 0, .int .i64 0] 37 (0, 0))) ∧ Hid (wr.heap[w.heap.size + 1]? = some (.cells (ms F k) 56 (0, 0))) ∧ Hid (wr.heap[g]? = some (.cells cs 9 (0, 0))) ∧ Hid (∀ j, j < k → rdB (p j) = true)) (fun _ _ _ _ i _ => 4 - (RowKit.intOf i).toNat)
    case atStart => exact ⟨0, Nat.zero_le _, rfl, HB3, KR3, KM3, KP3, Lib.hid fun j hj => by omega⟩
    case round =>
      obtain ⟨k, hk, rfl, HB, KR, KM, KP, HD⟩ := hrel
      have hzr := HB.out.size
      by_cases hlt : k < 4
      · have RK := Lib.hid fun w hV => R.out k w hV
        have NK := Lib.hid fun h => NR.out k hlt h
        have ck := (cell_of_row _ _ k _ _ _ KP.out).trans (CP.out k hlt)
        have hk4 : (k : Int) < 4 := by omega
        cases hok : rdB (p k)
        · have Z := Lib.hid (NK.out hok)
          rw [hok] at RK
          clear hok NK
          go_wp2_with fail
          refine (RK.out _ (HV.out.below HB.out)).mono ?_
          rintro e w4 ⟨rfl, b4⟩
          have HB4 := Lib.hid (below_then HB.out b4)
          have KR4 := Lib.hid (Ba.blk_keep b4 KR.out)
          have hz4 := HB4.out.size
          clear b4 ck
          obtain ⟨z0, z1, z2, z3⟩ := blk4 KR4.out
          have hfr := blk_free KR4.out
          have hl4 := lt_of_heap KR4.out
          go_wp2_with fail
          rw [Z.out.1, Z.out.2, Z.out.2, Z.out.2, Z.out.2]
          exact bodyPost_ret (v := .tuple #[.agg #[.int .i64 0, .int .i64 0, .int .i64 0, .int .i64 0], .bool false]) (by simp [results, Tryd.results22, go_sem, z0, z1, z2, z3]) rfl
            ⟨rfl, (((HB4.out.setCell (by simp) _).setCell (by simp) _).setCell (by simp) _).setCell (by simp) _⟩
        · have HD' : Hid (∀ j, j < k + 1 → rdB (p j) = true) := Lib.hid fun j hj => by
            by_cases e : j = k
            · rw [e]; exact hok
            · exact HD.out j (by omega)
          rw [hok] at RK
          clear hok NK
          go_wp2_with fail
          refine (RK.out _ (HV.out.below HB.out)).mono ?_
          rintro e w4 ⟨rfl, b4⟩
          have HB4 := Lib.hid (below_then HB.out b4)
          have KR4 := Lib.hid (Ba.blk_keep b4 KR.out)
          have KM4 := Lib.hid (Ba.blk_keep b4 KM.out)
          have KP4 := Lib.hid (Ba.blk_keep b4 KP.out)
          clear b4 ck
          have cm := (cell_of_row _ _ k _ _ _ KM4.out).trans (ms_at F hlt)
          have hfr := blk_free KM4.out
          have hl4 := lt_of_heap KM4.out
          go_wp2_with fail
          have HB5 := Lib.hid (HB4.out.setCell (p := ⟨w.heap.size + 1, k, none⟩) (by simp) (.int .i64 (F k)))
          have KR5 := Lib.hid (heap_other KR4.out (b := w.heap.size + 1) (by omega) k (.int .i64 (F k)))
          have KM5 := Lib.hid (heap_set KM4.out k (.int .i64 (F k)))
          have KP5 := Lib.hid (heap_other KP4.out (b := w.heap.size + 1) (by omega) k (.int .i64 (F k)))
          rw [ms_set F hlt] at KM5
          go_roundw
          case rel => exact ⟨k + 1, by omega, by go_num, HB5, KR5, KM5, KP5, HD'⟩
          case measure => simp [RowKit.intOf]; omega
      · obtain rfl : k = 4 := by omega
        have KM' : Hid (wr.heap[w.heap.size + 1]? = some (.cells #[.int .i64 (F 0), .int .i64 (F 1), .int .i64 (F 2), .int .i64 (F 3)] 56 (0, 0))) := KM
        obtain ⟨x0, x1, x2, x3⟩ := blk4 KM'.out
        have YA2 := Lib.hid fun hv => YA'.out HD.out hv
        clear hk hlt YA' HD NR R CP KP KM
        go_wp2_with fail
        refine (back_any _ _ _ _ _).mono ?_
        rintro e w4 ⟨rfl, b4⟩
        have HB4 := Lib.hid (below_then HB.out b4)
        have KR4 := Lib.hid (Ba.blk_keep b4 KR.out)
        have hz4 := HB4.out.size
        have hl4 := lt_of_heap KR4.out
        clear b4 x0 x1 x2 x3
        cases hfv : fv
        all_goals
          rw [hfv] at FT
          go_wp2_with fail
          refine (FT.out _).mono ?_
          rintro e w5 ⟨rfl, b5⟩
          obtain ⟨hb5, k5⟩ := boxes1 b5
          have HB5 := Lib.hid (below_then HB4.out hb5)
          have KR5 := Lib.hid (Ba.blk_keep hb5 KR4.out)
          have hz5 := HB5.out.size
          have hl5 := lt_of_heap KR5.out
          obtain ⟨z0, z1, z2, z3⟩ := blk4 KR5.out
          obtain ⟨y0, y1, y2, y3⟩ := blk4 k5
          have hfr := blk_free KR5.out
          have hl6 := lt_of_heap k5
          clear b5 hb5 k5
        · have Z := Lib.hid (NF.out hfv)
          clear hfv NF YA2 FT
          go_wp2_with fail
          rw [Z.out.1, Z.out.2, Z.out.2, Z.out.2, Z.out.2]
          exact bodyPost_ret (v := .tuple #[.agg #[.int .i64 0, .int .i64 0, .int .i64 0, .int .i64 0], .bool false]) (by simp [results, Tryd.results22, go_sem, z0, z1, z2, z3]) rfl
            ⟨rfl, (((HB5.out.setCell (by simp) _).setCell (by simp) _).setCell (by simp) _).setCell (by simp) _⟩
        · have Z := Lib.hid (YA2.out hfv)
          clear hfv NF YA2 FT
          go_wp2_with fail
          rw [Z.out.1, Z.out.2, Z.out.2, Z.out.2, Z.out.2]
          exact bodyPost_ret (v := .tuple #[.agg #[.int .i64 (F 0), .int .i64 (F 1), .int .i64 (F 2), .int .i64 (F 3)], .bool true]) (by simp [results, Tryd.results22, go_sem, z0, z1, z2, z3]) rfl
            ⟨rfl, (((HB5.out.setCell (by simp) _).setCell (by simp) _).setCell (by simp) _).setCell (by simp) _⟩
  · have Z := Lib.hid (NL.out fun h => h4 (P4.out.2 h))
    have hne : ¬ (ps.length : Int) = 4 := by omega
    clear NL NR NF YA FT R CS PG P4 KM3 KP3
    obtain ⟨z0, z1, z2, z3⟩ := blk4 KR3.out
    have hfr := blk_free KR3.out
    have hl4 := lt_of_heap KR3.out
    go_wp2_with fail
    rw [Z.out.1, Z.out.2, Z.out.2, Z.out.2, Z.out.2]
    exact bodyPost_ret (v := .tuple #[.agg #[.int .i64 0, .int .i64 0, .int .i64 0, .int .i64 0], .bool false]) (by simp [results, Tryd.results22, go_sem, z0, z1, z2, z3]) rfl
      ⟨rfl, (((HB3.out.setCell (by simp) _).setCell (by simp) _).setCell (by simp) _).setCell (by simp) _⟩

end Go.Proofs.YtoincfhhafpekabDoor.Rj
