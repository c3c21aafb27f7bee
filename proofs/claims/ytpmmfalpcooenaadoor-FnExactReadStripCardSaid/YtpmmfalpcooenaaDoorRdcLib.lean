/- ReadStrip: the program's walk. -/
import Derived.Test.YtpmmfalpcooenaaDoorRdbLib
import Derived.Test.YtpmmfalpcooenaaDoorSn
namespace Go.Proofs.YtpmmfalpcooenaaDoor.Rdc
open Go.RowKit Ba Dc Ds Rn Rs Tb Ri St Rz Rda Stv Er Sx
set_option linter.unusedVariables false

def MaxAt (w : World) : Prop := ∃ m : Int, w.cell? ⟨5, 0, none⟩ = some (.int .i64 m)
theorem MaxAt.below {w w' : World} (h : MaxAt w) (hb : Below w.heap.size w w') : MaxAt w' := by
  obtain ⟨m, hm⟩ := h
  exact ⟨m, (hb.cell (p := ⟨_, 0, none⟩) (World.block_lt_of_cell? w _ hm)).trans hm⟩
structure VR (w : World) : Prop where
  ri : Ri.Vars w
  mks : ∀ k, k < 4 → w.cell? ⟨0, k, none⟩ = some (.string ⟨(Sx.sm k).toArray⟩)
  out : Sen w 3
theorem VR.below {w w' : World} (h : VR w) (hb : Below w.heap.size w w') : VR w' := ⟨h.ri.below hb, fun k hk => (hb.cell (p := ⟨_, k, none⟩) (World.block_lt_of_cell? w _ (h.mks k hk))).trans (h.mks k hk), h.out.below hb⟩
theorem set_ne {w : World} {g h : Nat} (hn : g ≠ h) {o : Obj} (hh : w.heap[h]? = some o) (i : Nat) (u : Value) : (w.setCell ⟨g, i, none⟩ u).heap[h]? = some o := by
  simp [World.setCell, Array.getElem?_modify, hn, hh]
theorem below_drewN (w : World) : ∀ n, Below w.heap.size w (w.drewN n)
  | 0 => Below.refl _ _
  | n + 1 => (below_drewN w n).drew
theorem cut_any (s : ByteArray) (sep : List UInt8) (hs : s.size ≤ 1048576) (w : World) (hM : MaxAt w) : Calls Tryd.prog 78 #[.string s, .string ⟨sep.toArray⟩] w fun e w' => e = .returned (.tuple #[.string ⟨(Lib.cut s.data.toList sep).1.toArray⟩, .string ⟨(Lib.cut s.data.toList sep).2.1.toArray⟩, .bool (Lib.cut s.data.toList sep).2.2]) ∧ Below w.heap.size w w' := by
  obtain ⟨m, hm⟩ := hM
  refine (Tryd.strings_Cut s ⟨sep.toArray⟩ m w (by omega) hm).mono ?_
  rintro e w' ⟨rfl, n, rfl⟩
  exact ⟨rfl, below_drewN w n⟩
theorem no_ok {L : List UInt8} {k : Nat} (hk : k < 4) (h : Fo L k = false ∨ rdB (T L k) = false) : B L = false ∧ ∀ j, V L j = 0 := no_of (by
  have ho : Rda.ok L k = false := by unfold Rda.ok; rcases h with h | h <;> rw [h] <;> simp
  unfold B
  match k, hk with
  | 0, _ => rw [ho]; simp
  | 1, _ => rw [ho]; simp
  | 2, _ => rw [ho]; simp
  | 3, _ => rw [ho]; simp)
theorem no_rest {L : List UInt8} (h : ¬ R L 4 = []) : B L = false ∧ ∀ j, V L j = 0 := no_of (by unfold B; rw [decide_eq_false h]; simp)
theorem no_st {L : List UInt8} (h : stB (X L 0) (X L 1) (X L 2) (X L 3) = false) : B L = false ∧ ∀ j, V L j = 0 := no_of (by unfold B; rw [h]; simp)
theorem yes_all {L : List UInt8} (h : ∀ k, k < 4 → Fo L k = true ∧ rdB (T L k) = true) (hr : R L 4 = []) (hs : stB (X L 0) (X L 1) (X L 2) (X L 3) = true) : B L = true ∧ ∀ j, V L j = X L j := by
  have ho : ∀ k, k < 4 → Rda.ok L k = true := fun k hk => by unfold Rda.ok; rw [(h k hk).1, (h k hk).2]; rfl
  have hb : B L = true := by unfold B; rw [ho 0 (by decide), ho 1 (by decide), ho 2 (by decide), ho 3 (by decide), hr, hs]; rfl
  exact ⟨hb, fun j => by unfold V; rw [hb]; rfl⟩
theorem ix0 (p : Nat) (w : World) : (Instr.index 103 (.agg #[.pointer (some ⟨p, 0, none⟩), .pointer (some ⟨p, 1, none⟩), .pointer (some ⟨p, 2, none⟩), .pointer (some ⟨p, 3, none⟩)]) (.int .i64 0)).run Tryd.prog w = .ok (.pointer (some ⟨p, 0, none⟩)) w := by simp [Instr.index, run_underlying Tryd.underlying103, asIntOf, go_sem]
theorem ix1 (p : Nat) (w : World) : (Instr.index 103 (.agg #[.pointer (some ⟨p, 0, none⟩), .pointer (some ⟨p, 1, none⟩), .pointer (some ⟨p, 2, none⟩), .pointer (some ⟨p, 3, none⟩)]) (.int .i64 1)).run Tryd.prog w = .ok (.pointer (some ⟨p, 1, none⟩)) w := by simp [Instr.index, run_underlying Tryd.underlying103, asIntOf, go_sem]
theorem ix2 (p : Nat) (w : World) : (Instr.index 103 (.agg #[.pointer (some ⟨p, 0, none⟩), .pointer (some ⟨p, 1, none⟩), .pointer (some ⟨p, 2, none⟩), .pointer (some ⟨p, 3, none⟩)]) (.int .i64 2)).run Tryd.prog w = .ok (.pointer (some ⟨p, 2, none⟩)) w := by simp [Instr.index, run_underlying Tryd.underlying103, asIntOf, go_sem]
theorem ix3 (p : Nat) (w : World) : (Instr.index 103 (.agg #[.pointer (some ⟨p, 0, none⟩), .pointer (some ⟨p, 1, none⟩), .pointer (some ⟨p, 2, none⟩), .pointer (some ⟨p, 3, none⟩)]) (.int .i64 3)).run Tryd.prog w = .ok (.pointer (some ⟨p, 3, none⟩)) w := by simp [Instr.index, run_underlying Tryd.underlying103, asIntOf, go_sem]
/-- What x holds behind k numbers. -/
def cont (X : Nat → Int) (k : Nat) : Obj := .cells #[.int .i64 (if 0 < k then X 0 else 0), .int .i64 (if 1 < k then X 1 else 0), .int .i64 (if 2 < k then X 2 else 0), .int .i64 (if 3 < k then X 3 else 0)] 54 (0, 0)
set_option maxRecDepth 100000 in
set_option maxHeartbeats 4000000 in
theorem impl_rd (s : ByteArray) (hs : s.size ≤ 1048576) (w : World) (hV : VR w) (hM : MaxAt w) : Calls Tryd.prog 45 #[.string s] w fun e w' => e = .returned (.tuple #[.agg #[.int .i64 (V s.data.toList 0), .int .i64 (V s.data.toList 1), .int .i64 (V s.data.toList 2), .int .i64 (V s.data.toList 3)], .bool (B s.data.toList)]) ∧ Below w.heap.size w w' := by
  have hsl : s.data.toList.length = s.size := by simp
  have S0 : Hid (s = ⟨(R s.data.toList 0).toArray⟩) := Lib.hid (mk_eq s rfl).symm
  have CU : Hid (∀ (k : Nat) w, MaxAt w → Calls Tryd.prog 78 #[.string ⟨(R s.data.toList k).toArray⟩, .string ⟨(Sx.sm k).toArray⟩] w fun e w' => e = .returned (.tuple #[.string ⟨(T s.data.toList k).toArray⟩, .string ⟨(R s.data.toList (k + 1)).toArray⟩, .bool (Fo s.data.toList k)]) ∧ Below w.heap.size w w') := Lib.hid fun k w hM => cut_any ⟨(R s.data.toList k).toArray⟩ (Sx.sm k) (by
    show (R s.data.toList k).length ≤ _
    have := R_le s.data.toList k
    omega) w hM
  have NU : Hid (∀ (k : Nat) w, Ri.Vars w → Calls Tryd.prog 79 #[.string ⟨(T s.data.toList k).toArray⟩] w fun e w' => e = .returned (.tuple #[.int .i64 (X s.data.toList k), .bool (rdB (T s.data.toList k))]) ∧ Below w.heap.size w w') := Lib.hid fun k w hV => read_any ⟨(T s.data.toList k).toArray⟩ (by
    show (T s.data.toList k).length ≤ _
    have := T_le s.data.toList k
    omega) w hV
  have NK := Lib.hid fun k hk h => no_ok (L := s.data.toList) (k := k) hk h
  have NR := Lib.hid fun h => no_rest (L := s.data.toList) h
  have NS := Lib.hid fun h => no_st (L := s.data.toList) h
  have YA := Lib.hid fun h hr hs => yes_all (L := s.data.toList) h hr hs
  have CK := Lib.hid fun w hV => check_any (X s.data.toList 0) (X s.data.toList 1) (X s.data.toList 2) (X s.data.toList 3) w hV
  have HV := Lib.hid hV
  have HM := Lib.hid hM
  clear hV hM hs hsl
  generalize s.data.toList = L at *
  generalize V L = N at NK NR NS YA ⊢
  generalize B L = b at NK NR NS YA ⊢
  generalize stB (X L 0) (X L 1) (X L 2) (X L 3) = sb at NS YA CK
  have DD : ∃ rd : Nat → Bool, ∀ k, rdB (T L k) = rd k := ⟨fun k => rdB (T L k), fun _ => rfl⟩
  obtain ⟨rd, hrd⟩ := DD
  simp only [hrd] at NU NK YA
  clear hrd
  generalize X L = X at *
  generalize Fo L = F at *
  generalize T L = T at *
  generalize R L = R at *
  have B2 := below_then (below_box w (.cells #[.int .i64 0, .int .i64 0, .int .i64 0, .int .i64 0] 54)) (below_box _ (.cells #[.int .i64 0, .int .i64 0, .int .i64 0, .int .i64 0] 54))
  have HB2 := Lib.hid B2
  have K0 : Hid (((w.alloc (.cells #[.int .i64 0, .int .i64 0, .int .i64 0, .int .i64 0] 54)).alloc (.cells #[.int .i64 0, .int .i64 0, .int .i64 0, .int .i64 0] 54)).heap[w.heap.size]? = some (.cells #[.int .i64 0, .int .i64 0, .int .i64 0, .int .i64 0] 54)) := Lib.hid (blk_old _ (blk_new _ _))
  have K1 : Hid (((w.alloc (.cells #[.int .i64 0, .int .i64 0, .int .i64 0, .int .i64 0] 54)).alloc (.cells #[.int .i64 0, .int .i64 0, .int .i64 0, .int .i64 0] 54)).heap[w.heap.size + 1]? = some (.cells #[.int .i64 0, .int .i64 0, .int .i64 0, .int .i64 0] 54)) := Lib.hid (by
    have := blk_new (w.alloc (.cells #[.int .i64 0, .int .i64 0, .int .i64 0, .int .i64 0] 54)) (.cells #[.int .i64 0, .int .i64 0, .int .i64 0, .int .i64 0] 54)
    simpa using this)
  clear B2
  go_enter Tryd.func45, Tryd.ntmps45
  go_wp2_with fail
  generalize hp : w.heap.size + 1 = p at *
  go_loopw [5, 6, 7, 8, 9, 10, 11, 12, 19] (fun r _ _ _ _ _ _ _ i wr => ∃ (k : Nat) (z : Int), k ≤ 4 ∧ z = (k : Int) ∧ i = .int .i64 z ∧ r = .string ⟨(R k).toArray⟩ ∧ Hid (Below w.heap.size w wr) ∧ Hid (wr.heap[w.heap.size]? = some (.cells #[.int .i64 0, .int .i64 0, .int .i64 0, .int .i64 0] 54)) ∧ Hid (wr.heap[p]? = some (cont X k)) ∧ Hid (∀ j, j < k → F j = true ∧ rd j = true)) (fun _ _ _ _ _ _ _ _ i _ => 4 - (intOf i).toNat)
  case atStart => exact ⟨0, 0, by omega, rfl, rfl, by rw [← S0.out], HB2, K0, K1, Lib.hid fun j hj => by omega⟩
  case round =>
    obtain ⟨k, z, hk, hz, rfl, rfl, HB, KR, KX, HD⟩ := hrel
    have R4 : k = 0 ∨ k = 1 ∨ k = 2 ∨ k = 3 ∨ k = 4 := by omega
    have VW := Lib.hid (HV.out.below HB.out)
    have MW := Lib.hid (HM.out.below HB.out)
    clear HB2 K0 K1 S0
    rcases R4 with rfl | rfl | rfl | rfl | rfl
    · obtain rfl : z = 0 := by simpa using hz
      have m : wr.cell? ⟨0, 0, none⟩ = some (.string ⟨#[43]⟩) := VW.out.mks 0 (by decide)
      have hix := ix0 p wr
      have C : Hid (Calls Tryd.prog 78 #[.string ⟨(R 0).toArray⟩, .string ⟨#[43]⟩] wr fun e w' => e = .returned (.tuple #[.string ⟨(T 0).toArray⟩, .string ⟨(R 1).toArray⟩, .bool (F 0)]) ∧ Below wr.heap.size wr w') := Lib.hid (CU.out 0 wr MW.out)
      have N1 := Lib.hid (NU.out 0)
      have NK1 := Lib.hid (fun h => NK.out 0 (by decide) h)
      have KX1 : Hid (wr.heap[p]? = some (.cells #[.int .i64 0, .int .i64 0, .int .i64 0, .int .i64 0] 54)) := KX
      have hplt := lt_of_heap KX1.out
      generalize hF : F 0 = f at C
      generalize hr : rd 0 = q at N1
      clear hz hk CU NU NK KX MW CK NR NS YA
      go_wp2_with fail
      refine C.out.mono ?_
      rintro e w3 ⟨rfl, b3⟩
      have HB3 := Lib.hid (below_then HB.out b3)
      have KR3 := Lib.hid (Ba.blk_keep b3 KR.out)
      have KX3 := Lib.hid (Ba.blk_keep b3 KX1.out)
      have V3 := Lib.hid (VW.out.below b3)
      clear b3 m C HB KR KX1 VW hplt
      go_wp2_with fail
      refine (N1.out _ V3.out.ri).mono ?_
      rintro e w4 ⟨rfl, b4⟩
      have HB4 := Lib.hid (below_then HB3.out b4)
      have KR4 := Lib.hid (Ba.blk_keep b4 KR3.out)
      have KX4 := Lib.hid (Ba.blk_keep b4 KX3.out)
      clear b4 N1 HB3 KR3 KX3 V3
      cases f
      · have Z := Lib.hid (NK1.out (.inl hF))
        clear hF hr NK1 HD hix
        obtain ⟨z0, z1, z2, z3⟩ := blk4 KR4.out
        have hfr := blk_free KR4.out
        have hlr := lt_of_heap KR4.out
        have hzr := HB4.out.size
        go_wp2_with fail
        rw [Z.out.1, Z.out.2, Z.out.2, Z.out.2, Z.out.2]
        exact bodyPost_ret (v := .tuple #[.agg #[.int .i64 0, .int .i64 0, .int .i64 0, .int .i64 0], .bool false]) (by simp [results, Tryd.results45, go_sem, z0, z1, z2, z3]) rfl
          ⟨rfl, by repeat (first | exact HB4.out | (refine Below.setCell ?_ (by simp <;> omega) _) | (refine Below.alloc ?_ (by simp <;> omega) _))⟩
      cases q
      · have Z := Lib.hid (NK1.out (.inr hr))
        clear hF hr NK1 HD hix
        obtain ⟨z0, z1, z2, z3⟩ := blk4 KR4.out
        have hfr := blk_free KR4.out
        have hlr := lt_of_heap KR4.out
        have hzr := HB4.out.size
        go_wp2_with fail
        rw [Z.out.1, Z.out.2, Z.out.2, Z.out.2, Z.out.2]
        exact bodyPost_ret (v := .tuple #[.agg #[.int .i64 0, .int .i64 0, .int .i64 0, .int .i64 0], .bool false]) (by simp [results, Tryd.results45, go_sem, z0, z1, z2, z3]) rfl
          ⟨rfl, by repeat (first | exact HB4.out | (refine Below.setCell ?_ (by simp <;> omega) _) | (refine Below.alloc ?_ (by simp <;> omega) _))⟩
      have HD' : Hid (∀ j, j < 0 + 1 → F j = true ∧ rd j = true) := Lib.hid fun j hj => by
        by_cases e : j = 0
        · rw [e]; exact ⟨hF, hr⟩
        · exact HD.out j (by omega)
      have HB5 : Hid (Below w.heap.size w (w4.setCell ⟨p, 0, none⟩ (.int .i64 (X 0)))) := Lib.hid (HB4.out.setCell (by show w.heap.size ≤ p; omega) _)
      have KR5 : Hid ((w4.setCell ⟨p, 0, none⟩ (.int .i64 (X 0))).heap[w.heap.size]? = some (.cells #[.int .i64 0, .int .i64 0, .int .i64 0, .int .i64 0] 54)) := Lib.hid (set_ne (by omega) KR4.out _ _)
      have KX5 : Hid ((w4.setCell ⟨p, 0, none⟩ (.int .i64 (X 0))).heap[p]? = some (cont X 1)) := Lib.hid (Ge.heap_set KX4.out _ _)
      have hfr := blk_free KX4.out
      have hlp := lt_of_heap KX4.out
      have y : w4.cell? ⟨p, 0, none⟩ = some (.int .i64 0) := cell_of_row _ _ _ _ _ _ KX4.out
      clear hF hr NK1 HD HB4 KR4 KX4
      go_wp2_with fail
      go_roundw
      case rel => exact ⟨1, 1, by omega, rfl, rfl, rfl, HB5, KR5, KX5, HD'⟩
      case measure => simp [intOf]
    · obtain rfl : z = 1 := by simpa using hz
      have m : wr.cell? ⟨0, 1, none⟩ = some (.string ⟨#[40]⟩) := VW.out.mks 1 (by decide)
      have hix := ix1 p wr
      have C : Hid (Calls Tryd.prog 78 #[.string ⟨(R 1).toArray⟩, .string ⟨#[40]⟩] wr fun e w' => e = .returned (.tuple #[.string ⟨(T 1).toArray⟩, .string ⟨(R 2).toArray⟩, .bool (F 1)]) ∧ Below wr.heap.size wr w') := Lib.hid (CU.out 1 wr MW.out)
      have N1 := Lib.hid (NU.out 1)
      have NK1 := Lib.hid (fun h => NK.out 1 (by decide) h)
      have KX1 : Hid (wr.heap[p]? = some (.cells #[.int .i64 (X 0), .int .i64 0, .int .i64 0, .int .i64 0] 54)) := KX
      have hplt := lt_of_heap KX1.out
      generalize hF : F 1 = f at C
      generalize hr : rd 1 = q at N1
      clear hz hk CU NU NK KX MW CK NR NS YA
      go_wp2_with fail
      refine C.out.mono ?_
      rintro e w3 ⟨rfl, b3⟩
      have HB3 := Lib.hid (below_then HB.out b3)
      have KR3 := Lib.hid (Ba.blk_keep b3 KR.out)
      have KX3 := Lib.hid (Ba.blk_keep b3 KX1.out)
      have V3 := Lib.hid (VW.out.below b3)
      clear b3 m C HB KR KX1 VW hplt
      go_wp2_with fail
      refine (N1.out _ V3.out.ri).mono ?_
      rintro e w4 ⟨rfl, b4⟩
      have HB4 := Lib.hid (below_then HB3.out b4)
      have KR4 := Lib.hid (Ba.blk_keep b4 KR3.out)
      have KX4 := Lib.hid (Ba.blk_keep b4 KX3.out)
      clear b4 N1 HB3 KR3 KX3 V3
      cases f
      · have Z := Lib.hid (NK1.out (.inl hF))
        clear hF hr NK1 HD hix
        obtain ⟨z0, z1, z2, z3⟩ := blk4 KR4.out
        have hfr := blk_free KR4.out
        have hlr := lt_of_heap KR4.out
        have hzr := HB4.out.size
        go_wp2_with fail
        rw [Z.out.1, Z.out.2, Z.out.2, Z.out.2, Z.out.2]
        exact bodyPost_ret (v := .tuple #[.agg #[.int .i64 0, .int .i64 0, .int .i64 0, .int .i64 0], .bool false]) (by simp [results, Tryd.results45, go_sem, z0, z1, z2, z3]) rfl
          ⟨rfl, by repeat (first | exact HB4.out | (refine Below.setCell ?_ (by simp <;> omega) _) | (refine Below.alloc ?_ (by simp <;> omega) _))⟩
      cases q
      · have Z := Lib.hid (NK1.out (.inr hr))
        clear hF hr NK1 HD hix
        obtain ⟨z0, z1, z2, z3⟩ := blk4 KR4.out
        have hfr := blk_free KR4.out
        have hlr := lt_of_heap KR4.out
        have hzr := HB4.out.size
        go_wp2_with fail
        rw [Z.out.1, Z.out.2, Z.out.2, Z.out.2, Z.out.2]
        exact bodyPost_ret (v := .tuple #[.agg #[.int .i64 0, .int .i64 0, .int .i64 0, .int .i64 0], .bool false]) (by simp [results, Tryd.results45, go_sem, z0, z1, z2, z3]) rfl
          ⟨rfl, by repeat (first | exact HB4.out | (refine Below.setCell ?_ (by simp <;> omega) _) | (refine Below.alloc ?_ (by simp <;> omega) _))⟩
      have HD' : Hid (∀ j, j < 1 + 1 → F j = true ∧ rd j = true) := Lib.hid fun j hj => by
        by_cases e : j = 1
        · rw [e]; exact ⟨hF, hr⟩
        · exact HD.out j (by omega)
      have HB5 : Hid (Below w.heap.size w (w4.setCell ⟨p, 1, none⟩ (.int .i64 (X 1)))) := Lib.hid (HB4.out.setCell (by show w.heap.size ≤ p; omega) _)
      have KR5 : Hid ((w4.setCell ⟨p, 1, none⟩ (.int .i64 (X 1))).heap[w.heap.size]? = some (.cells #[.int .i64 0, .int .i64 0, .int .i64 0, .int .i64 0] 54)) := Lib.hid (set_ne (by omega) KR4.out _ _)
      have KX5 : Hid ((w4.setCell ⟨p, 1, none⟩ (.int .i64 (X 1))).heap[p]? = some (cont X 2)) := Lib.hid (Ge.heap_set KX4.out _ _)
      have hfr := blk_free KX4.out
      have hlp := lt_of_heap KX4.out
      have y : w4.cell? ⟨p, 1, none⟩ = some (.int .i64 0) := cell_of_row _ _ _ _ _ _ KX4.out
      clear hF hr NK1 HD HB4 KR4 KX4
      go_wp2_with fail
      go_roundw
      case rel => exact ⟨2, 2, by omega, rfl, rfl, rfl, HB5, KR5, KX5, HD'⟩
      case measure => simp [intOf]
    · obtain rfl : z = 2 := by simpa using hz
      have m : wr.cell? ⟨0, 2, none⟩ = some (.string ⟨#[44]⟩) := VW.out.mks 2 (by decide)
      have hix := ix2 p wr
      have C : Hid (Calls Tryd.prog 78 #[.string ⟨(R 2).toArray⟩, .string ⟨#[44]⟩] wr fun e w' => e = .returned (.tuple #[.string ⟨(T 2).toArray⟩, .string ⟨(R 3).toArray⟩, .bool (F 2)]) ∧ Below wr.heap.size wr w') := Lib.hid (CU.out 2 wr MW.out)
      have N1 := Lib.hid (NU.out 2)
      have NK1 := Lib.hid (fun h => NK.out 2 (by decide) h)
      have KX1 : Hid (wr.heap[p]? = some (.cells #[.int .i64 (X 0), .int .i64 (X 1), .int .i64 0, .int .i64 0] 54)) := KX
      have hplt := lt_of_heap KX1.out
      generalize hF : F 2 = f at C
      generalize hr : rd 2 = q at N1
      clear hz hk CU NU NK KX MW CK NR NS YA
      go_wp2_with fail
      refine C.out.mono ?_
      rintro e w3 ⟨rfl, b3⟩
      have HB3 := Lib.hid (below_then HB.out b3)
      have KR3 := Lib.hid (Ba.blk_keep b3 KR.out)
      have KX3 := Lib.hid (Ba.blk_keep b3 KX1.out)
      have V3 := Lib.hid (VW.out.below b3)
      clear b3 m C HB KR KX1 VW hplt
      go_wp2_with fail
      refine (N1.out _ V3.out.ri).mono ?_
      rintro e w4 ⟨rfl, b4⟩
      have HB4 := Lib.hid (below_then HB3.out b4)
      have KR4 := Lib.hid (Ba.blk_keep b4 KR3.out)
      have KX4 := Lib.hid (Ba.blk_keep b4 KX3.out)
      clear b4 N1 HB3 KR3 KX3 V3
      cases f
      · have Z := Lib.hid (NK1.out (.inl hF))
        clear hF hr NK1 HD hix
        obtain ⟨z0, z1, z2, z3⟩ := blk4 KR4.out
        have hfr := blk_free KR4.out
        have hlr := lt_of_heap KR4.out
        have hzr := HB4.out.size
        go_wp2_with fail
        rw [Z.out.1, Z.out.2, Z.out.2, Z.out.2, Z.out.2]
        exact bodyPost_ret (v := .tuple #[.agg #[.int .i64 0, .int .i64 0, .int .i64 0, .int .i64 0], .bool false]) (by simp [results, Tryd.results45, go_sem, z0, z1, z2, z3]) rfl
          ⟨rfl, by repeat (first | exact HB4.out | (refine Below.setCell ?_ (by simp <;> omega) _) | (refine Below.alloc ?_ (by simp <;> omega) _))⟩
      cases q
      · have Z := Lib.hid (NK1.out (.inr hr))
        clear hF hr NK1 HD hix
        obtain ⟨z0, z1, z2, z3⟩ := blk4 KR4.out
        have hfr := blk_free KR4.out
        have hlr := lt_of_heap KR4.out
        have hzr := HB4.out.size
        go_wp2_with fail
        rw [Z.out.1, Z.out.2, Z.out.2, Z.out.2, Z.out.2]
        exact bodyPost_ret (v := .tuple #[.agg #[.int .i64 0, .int .i64 0, .int .i64 0, .int .i64 0], .bool false]) (by simp [results, Tryd.results45, go_sem, z0, z1, z2, z3]) rfl
          ⟨rfl, by repeat (first | exact HB4.out | (refine Below.setCell ?_ (by simp <;> omega) _) | (refine Below.alloc ?_ (by simp <;> omega) _))⟩
      have HD' : Hid (∀ j, j < 2 + 1 → F j = true ∧ rd j = true) := Lib.hid fun j hj => by
        by_cases e : j = 2
        · rw [e]; exact ⟨hF, hr⟩
        · exact HD.out j (by omega)
      have HB5 : Hid (Below w.heap.size w (w4.setCell ⟨p, 2, none⟩ (.int .i64 (X 2)))) := Lib.hid (HB4.out.setCell (by show w.heap.size ≤ p; omega) _)
      have KR5 : Hid ((w4.setCell ⟨p, 2, none⟩ (.int .i64 (X 2))).heap[w.heap.size]? = some (.cells #[.int .i64 0, .int .i64 0, .int .i64 0, .int .i64 0] 54)) := Lib.hid (set_ne (by omega) KR4.out _ _)
      have KX5 : Hid ((w4.setCell ⟨p, 2, none⟩ (.int .i64 (X 2))).heap[p]? = some (cont X 3)) := Lib.hid (Ge.heap_set KX4.out _ _)
      have hfr := blk_free KX4.out
      have hlp := lt_of_heap KX4.out
      have y : w4.cell? ⟨p, 2, none⟩ = some (.int .i64 0) := cell_of_row _ _ _ _ _ _ KX4.out
      clear hF hr NK1 HD HB4 KR4 KX4
      go_wp2_with fail
      go_roundw
      case rel => exact ⟨3, 3, by omega, rfl, rfl, rfl, HB5, KR5, KX5, HD'⟩
      case measure => simp [intOf]
    · obtain rfl : z = 3 := by simpa using hz
      have m : wr.cell? ⟨0, 3, none⟩ = some (.string ⟨#[41]⟩) := VW.out.mks 3 (by decide)
      have hix := ix3 p wr
      have C : Hid (Calls Tryd.prog 78 #[.string ⟨(R 3).toArray⟩, .string ⟨#[41]⟩] wr fun e w' => e = .returned (.tuple #[.string ⟨(T 3).toArray⟩, .string ⟨(R 4).toArray⟩, .bool (F 3)]) ∧ Below wr.heap.size wr w') := Lib.hid (CU.out 3 wr MW.out)
      have N1 := Lib.hid (NU.out 3)
      have NK1 := Lib.hid (fun h => NK.out 3 (by decide) h)
      have KX1 : Hid (wr.heap[p]? = some (.cells #[.int .i64 (X 0), .int .i64 (X 1), .int .i64 (X 2), .int .i64 0] 54)) := KX
      have hplt := lt_of_heap KX1.out
      generalize hF : F 3 = f at C
      generalize hr : rd 3 = q at N1
      clear hz hk CU NU NK KX MW CK NR NS YA
      go_wp2_with fail
      refine C.out.mono ?_
      rintro e w3 ⟨rfl, b3⟩
      have HB3 := Lib.hid (below_then HB.out b3)
      have KR3 := Lib.hid (Ba.blk_keep b3 KR.out)
      have KX3 := Lib.hid (Ba.blk_keep b3 KX1.out)
      have V3 := Lib.hid (VW.out.below b3)
      clear b3 m C HB KR KX1 VW hplt
      go_wp2_with fail
      refine (N1.out _ V3.out.ri).mono ?_
      rintro e w4 ⟨rfl, b4⟩
      have HB4 := Lib.hid (below_then HB3.out b4)
      have KR4 := Lib.hid (Ba.blk_keep b4 KR3.out)
      have KX4 := Lib.hid (Ba.blk_keep b4 KX3.out)
      clear b4 N1 HB3 KR3 KX3 V3
      cases f
      · have Z := Lib.hid (NK1.out (.inl hF))
        clear hF hr NK1 HD hix
        obtain ⟨z0, z1, z2, z3⟩ := blk4 KR4.out
        have hfr := blk_free KR4.out
        have hlr := lt_of_heap KR4.out
        have hzr := HB4.out.size
        go_wp2_with fail
        rw [Z.out.1, Z.out.2, Z.out.2, Z.out.2, Z.out.2]
        exact bodyPost_ret (v := .tuple #[.agg #[.int .i64 0, .int .i64 0, .int .i64 0, .int .i64 0], .bool false]) (by simp [results, Tryd.results45, go_sem, z0, z1, z2, z3]) rfl
          ⟨rfl, by repeat (first | exact HB4.out | (refine Below.setCell ?_ (by simp <;> omega) _) | (refine Below.alloc ?_ (by simp <;> omega) _))⟩
      cases q
      · have Z := Lib.hid (NK1.out (.inr hr))
        clear hF hr NK1 HD hix
        obtain ⟨z0, z1, z2, z3⟩ := blk4 KR4.out
        have hfr := blk_free KR4.out
        have hlr := lt_of_heap KR4.out
        have hzr := HB4.out.size
        go_wp2_with fail
        rw [Z.out.1, Z.out.2, Z.out.2, Z.out.2, Z.out.2]
        exact bodyPost_ret (v := .tuple #[.agg #[.int .i64 0, .int .i64 0, .int .i64 0, .int .i64 0], .bool false]) (by simp [results, Tryd.results45, go_sem, z0, z1, z2, z3]) rfl
          ⟨rfl, by repeat (first | exact HB4.out | (refine Below.setCell ?_ (by simp <;> omega) _) | (refine Below.alloc ?_ (by simp <;> omega) _))⟩
      have HD' : Hid (∀ j, j < 3 + 1 → F j = true ∧ rd j = true) := Lib.hid fun j hj => by
        by_cases e : j = 3
        · rw [e]; exact ⟨hF, hr⟩
        · exact HD.out j (by omega)
      have HB5 : Hid (Below w.heap.size w (w4.setCell ⟨p, 3, none⟩ (.int .i64 (X 3)))) := Lib.hid (HB4.out.setCell (by show w.heap.size ≤ p; omega) _)
      have KR5 : Hid ((w4.setCell ⟨p, 3, none⟩ (.int .i64 (X 3))).heap[w.heap.size]? = some (.cells #[.int .i64 0, .int .i64 0, .int .i64 0, .int .i64 0] 54)) := Lib.hid (set_ne (by omega) KR4.out _ _)
      have KX5 : Hid ((w4.setCell ⟨p, 3, none⟩ (.int .i64 (X 3))).heap[p]? = some (cont X 4)) := Lib.hid (Ge.heap_set KX4.out _ _)
      have hfr := blk_free KX4.out
      have hlp := lt_of_heap KX4.out
      have y : w4.cell? ⟨p, 3, none⟩ = some (.int .i64 0) := cell_of_row _ _ _ _ _ _ KX4.out
      clear hF hr NK1 HD HB4 KR4 KX4
      go_wp2_with fail
      go_roundw
      case rel => exact ⟨4, 4, by omega, rfl, rfl, rfl, HB5, KR5, KX5, HD'⟩
      case measure => simp [intOf]
    · obtain rfl : z = 4 := by simpa using hz
      have KX1 : Hid (wr.heap[p]? = some (.cells #[.int .i64 (X 0), .int .i64 (X 1), .int .i64 (X 2), .int .i64 (X 3)] 54)) := KX
      have hplt := lt_of_heap KX1.out
      clear hz hk CU NU NK KX MW
      by_cases hR : R 4 = []
      rotate_left
      · have Z := Lib.hid (NR.out hR)
        have hne : (⟨(R 4).toArray⟩ : ByteArray).toList.isEmpty = false := by
          rw [ByteArray.toList_eq]
          cases hl : R 4 with
          | nil => exact absurd hl hR
          | cons a l => rfl
        have hnn : ¬ (⟨(R 4).toArray⟩ : ByteArray).toList = [] := fun e => by rw [e] at hne; cases hne
        clear hR CK NS YA HD VW KX1
        generalize (⟨(R 4).toArray⟩ : ByteArray) = t4 at *
        obtain ⟨z0, z1, z2, z3⟩ := blk4 KR.out
        have hfr := blk_free KR.out
        have hlr := lt_of_heap KR.out
        have hzr := HB.out.size
        go_wp2_with fail
        rw [Z.out.1, Z.out.2, Z.out.2, Z.out.2, Z.out.2]
        exact bodyPost_ret (v := .tuple #[.agg #[.int .i64 0, .int .i64 0, .int .i64 0, .int .i64 0], .bool false]) (by simp [results, Tryd.results45, go_sem, z0, z1, z2, z3]) rfl
          ⟨rfl, by repeat (first | exact HB.out | (refine Below.setCell ?_ (by simp <;> omega) _) | (refine Below.alloc ?_ (by simp <;> omega) _))⟩
      have YA1 := Lib.hid fun h => YA.out HD.out hR h
      clear YA HD NR
      rw [hR]
      have he : (⟨([] : List UInt8).toArray⟩ : ByteArray).toList = [] := by rw [ByteArray.toList_eq]
      obtain ⟨x0, x1, x2, x3⟩ := blk4 KX1.out
      go_wp2_with fail
      refine (CK.out _ VW.out.out).mono ?_
      rintro e w5 ⟨⟨x, rfl, hx⟩, b5⟩
      have HB5 := Lib.hid (below_then HB.out b5)
      have KR5 := Lib.hid (Ba.blk_keep b5 KR.out)
      have KX5 := Lib.hid (Ba.blk_keep b5 KX1.out)
      clear b5 x0 x1 x2 x3 hplt KR KX1 HB VW CK
      obtain ⟨x0, x1, x2, x3⟩ := blk4 KX5.out
      have hplt := lt_of_heap KX5.out
      rcases hx with ⟨rfl, rfl⟩ | ⟨rfl, u, v, rfl⟩
      · have Z := Lib.hid (YA1.out rfl)
        clear YA1 NS
        obtain ⟨z0, z1, z2, z3⟩ := blk4 KR5.out
        have hfr := blk_free KR5.out
        have hlr := lt_of_heap KR5.out
        have hzr := HB5.out.size
        go_wp2_with fail
        rw [Z.out.1, Z.out.2, Z.out.2, Z.out.2, Z.out.2]
        exact bodyPost_ret (v := .tuple #[.agg #[.int .i64 (X 0), .int .i64 (X 1), .int .i64 (X 2), .int .i64 (X 3)], .bool true]) (by simp [results, Tryd.results45, go_sem, z0, z1, z2, z3]) rfl
          ⟨rfl, by repeat (first | exact HB5.out | (refine Below.setCell ?_ (by simp <;> omega) _) | (refine Below.alloc ?_ (by simp <;> omega) _))⟩
      · have Z := Lib.hid (NS.out rfl)
        clear YA1 NS
        obtain ⟨z0, z1, z2, z3⟩ := blk4 KR5.out
        have hfr := blk_free KR5.out
        have hlr := lt_of_heap KR5.out
        have hzr := HB5.out.size
        go_wp2_with fail
        rw [Z.out.1, Z.out.2, Z.out.2, Z.out.2, Z.out.2]
        exact bodyPost_ret (v := .tuple #[.agg #[.int .i64 0, .int .i64 0, .int .i64 0, .int .i64 0], .bool false]) (by simp [results, Tryd.results45, go_sem, z0, z1, z2, z3]) rfl
          ⟨rfl, by repeat (first | exact HB5.out | (refine Below.setCell ?_ (by simp <;> omega) _) | (refine Below.alloc ?_ (by simp <;> omega) _))⟩
end Go.Proofs.YtpmmfalpcooenaaDoor.Rdc
