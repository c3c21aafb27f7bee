/- ReadSize: the spec's, the program's, the walk of the law. -/
import Derived.Test.YtcmjbpjeiaifoabDoorRzLib
import Derived.OwnWalk
import Derived.Laws.OwnMore
namespace Go.Proofs.YtcmjbpjeiaifoabDoor.Ry
open Go.RowKit Ba Go.Lib Dc Ds Rn Rs Tb Ri St Rz
set_option linter.unusedVariables false

theorem cut_any (s : ByteArray) (hs : s.size ≤ 1048576) (w : World) : Calls Tryd.prog 20 #[.string s, .string ⟨#[46, 53]⟩] w fun e w' => e = .returned (.tuple #[.string ⟨(wh s.data.toList).toArray⟩, .bool (od s.data.toList)]) ∧ w' = w :=
  Tryd.strings_CutSuffix s ⟨#[46, 53]⟩ w (by omega)
theorem wh_le (L : List UInt8) : (wh L).length ≤ L.length := by
  unfold wh trimSuffix
  split
  · simp
  · exact Nat.le_refl _
set_option maxHeartbeats 2000000 in
theorem impl_size (s : ByteArray) (hs : s.size ≤ 1048576) (w : World) (hV : Vars w) : Calls Tryd.prog 12 #[.string s] w fun e w' => e = .returned (.tuple #[.int .i64 (szN s.data.toList), .bool (szB s.data.toList)]) ∧ Below w.heap.size w w' := by
  have C := Lib.hid fun w => cut_any s hs w
  have hl : (wh s.data.toList).length ≤ 1048576 := by have := wh_le s.data.toList; simp at this; omega
  have R := Lib.hid (read_any ⟨(wh s.data.toList).toArray⟩ (by show (wh s.data.toList).toArray.size ≤ _; simp; omega) w hV)
  have B := rdN_bd (wh s.data.toList)
  have Z1 := Lib.hid fun h => sz_rd (L := s.data.toList) h
  have Z2 := Lib.hid fun h => sz_in (L := s.data.toList) h
  have Z3 := Lib.hid fun h h' => sz_yes (L := s.data.toList) h h'
  have ZH : Hid (szH s.data.toList = 2 * rdN (wh s.data.toList) + (if od s.data.toList then 1 else 0)) := Lib.hid rfl
  change Hid (Calls _ _ _ _ fun e w' => e = .returned (.tuple #[.int .i64 (rdN (wh s.data.toList)), .bool (rdB (wh s.data.toList))]) ∧ Below w.heap.size w w') at R
  generalize rdN (wh s.data.toList) = n at R B ZH
  generalize rdB (wh s.data.toList) = ok at R Z1 Z3
  generalize (wh s.data.toList).toArray = p at C R
  generalize od s.data.toList = o at C ZH
  generalize szH s.data.toList = h at ZH Z2 Z3
  generalize szN s.data.toList = N at Z1 Z2 Z3 ⊢
  generalize szB s.data.toList = b at Z1 Z2 Z3 ⊢
  clear hV hl hs
  obtain ⟨B1, B2⟩ := B
  cases ok
  · have Z := Lib.hid (Z1.out rfl)
    clear Z1 Z2 Z3 ZH
    go_enter Tryd.func12, Tryd.ntmps12
    go_wp2_with fail
    refine (C.out _).mono ?_
    rintro e w1 ⟨rfl, rfl⟩
    go_wp2_with fail
    refine R.out.mono ?_
    rintro e w2 ⟨rfl, b2⟩
    go_wp2_with fail
    go_ret2
    exact ⟨ret_rd Z.out.2.symm Z.out.1.symm, b2⟩
  · clear Z1
    cases o
    all_goals
      have zh := ZH.out
      simp only [if_true, if_false, Bool.false_eq_true, Int.add_zero] at zh
      cases hi : inB h 0 120
      · have Z := Lib.hid (Z2.out hi)
        have HF := Lib.hid fun w => half_any h w
        rw [hi] at HF
        clear Z2 Z3 ZH hi
        rw [zh] at HF
        clear zh
        go_enter Tryd.func12, Tryd.ntmps12
        go_wp2_with fail
        refine (C.out _).mono ?_
        rintro e w1 ⟨rfl, rfl⟩
        go_wp2_with fail
        refine R.out.mono ?_
        rintro e w2 ⟨rfl, b2⟩
        go_wp2_with fail
        refine (HF.out _).mono ?_
        rintro e w3 ⟨rfl, rfl⟩
        go_wp2_with fail
        go_ret2
        exact ⟨ret_rd Z.out.2.symm Z.out.1.symm, b2⟩
      · have Z := Lib.hid (Z3.out rfl hi)
        have HF := Lib.hid fun w => half_any h w
        rw [hi] at HF
        clear Z2 Z3 ZH hi
        rw [zh] at HF Z
        clear zh
        go_enter Tryd.func12, Tryd.ntmps12
        go_wp2_with fail
        refine (C.out _).mono ?_
        rintro e w1 ⟨rfl, rfl⟩
        go_wp2_with fail
        refine R.out.mono ?_
        rintro e w2 ⟨rfl, b2⟩
        go_wp2_with fail
        refine (HF.out _).mono ?_
        rintro e w3 ⟨rfl, rfl⟩
        go_wp2_with fail
        go_ret2
        exact ⟨ret_rd Z.out.2.symm Z.out.1.symm, b2⟩
theorem part_le {L p : List UInt8} {ps : List (List UInt8)} (h : spl 46 L = p :: ps) : p.length ≤ L.length := by
  rcases spl_inv h with ⟨_, rfl, _⟩ | ⟨r, rfl, _, _⟩
  · exact Nat.le_refl _
  · simp
set_option maxHeartbeats 2000000 in
theorem spec_size (s : ByteArray) (hs : s.size ≤ 1048576) (w : World) : Calls Tryd.prog 11 #[.string s] w fun e w' => e = .returned (.tuple #[.int .i64 (szN s.data.toList), .bool (szB s.data.toList)]) ∧ Below w.heap.size w w' := by
  have SP := split_any s 46 hs w
  rw [show (((46 : UInt8).toNat : Nat) : Int) = 46 by decide] at SP
  have hsl : s.data.toList.length ≤ 1048576 := by simpa using hs
  have Z1 := Lib.hid fun h => sz_rd (L := s.data.toList) h
  have Z2 := Lib.hid fun h => sz_in (L := s.data.toList) h
  have Z3 := Lib.hid fun h h' => sz_yes (L := s.data.toList) h h'
  have Z4 := Lib.hid fun h => sz_no (L := s.data.toList) h
  have ZH : Hid (szH s.data.toList = 2 * rdN (wh s.data.toList) + (if od s.data.toList then 1 else 0)) := Lib.hid rfl
  clear hs
  generalize hL : s.data.toList = L at SP hsl Z1 Z2 Z3 Z4 ZH ⊢
  cases hP : spl 46 L with
  | nil => exact absurd hP (spl_ne _ _)
  | cons p ps =>
    have hp := part_le hP
    have R := Lib.hid fun w => num_any ⟨p.toArray⟩ (by show p.toArray.size ≤ _; unfold maxLen; simp; omega) w
    change Hid (∀ w, Calls _ _ _ _ fun e w' => e = .returned (.tuple #[.int .i64 (rdN p), .bool (rdB p)]) ∧ Below w.heap.size w w') at R
    have B := rdN_bd p
    rw [hP] at SP
    have SP := Lib.hid SP
    clear hp hsl hL
    cases ps with
    | nil =>
      obtain ⟨hpL, ho, hw⟩ := one hP
      subst hpL
      rw [ho, hw] at ZH
      rw [hw] at Z1 Z3
      clear hP ho hw Z4
      generalize rdN p = n at R B ZH
      generalize rdB p = ok at R Z1 Z3
      generalize szH p = h at ZH Z2 Z3
      generalize szN p = N at Z1 Z2 Z3 ⊢
      generalize szB p = b at Z1 Z2 Z3 ⊢
      obtain ⟨B1, B2⟩ := B
      have zh := ZH.out
      simp only [Bool.false_eq_true, if_false, Int.add_zero] at zh
      clear ZH
      cases ok
      · have Z := Lib.hid (Z1.out rfl)
        clear Z1 Z2 Z3 zh
        go_enter Tryd.func11, Tryd.ntmps11
        go_wp2_with fail
        refine SP.out.mono ?_
        rintro e w1 ⟨v, rfl, HR, b1⟩
        obtain ⟨g, cap, rfl, _, _⟩ := HR.out.form (by simp)
        have c0 := (HR.out.cellAt 0 (by simp)).trans (by rfl : _ = some (.string ⟨p.toArray⟩))
        have HB1 := Lib.hid b1
        clear b1 HR
        go_wp2_with fail
        refine (R.out _).mono ?_
        rintro e w2 ⟨rfl, b2⟩
        have HB2 := Lib.hid (below_then HB1.out b2)
        clear b2 c0
        go_wp2_with fail
        go_ret2
        exact ⟨ret_rd Z.out.2.symm Z.out.1.symm, HB2.out⟩
      · clear Z1
        cases hi : inB n 0 60
        · have Z := Lib.hid (Z2.out (by rw [zh]; unfold inB at hi ⊢; simp at hi ⊢; omega))
          have HN := Lib.hid fun w => in_any n 0 60 w
          rw [hi] at HN
          clear Z2 Z3 zh hi
          go_enter Tryd.func11, Tryd.ntmps11
          go_wp2_with fail
          refine SP.out.mono ?_
          rintro e w1 ⟨v, rfl, HR, b1⟩
          obtain ⟨g, cap, rfl, _, _⟩ := HR.out.form (by simp)
          have c0 := (HR.out.cellAt 0 (by simp)).trans (by rfl : _ = some (.string ⟨p.toArray⟩))
          have HB1 := Lib.hid b1
          clear b1 HR
          go_wp2_with fail
          refine (R.out _).mono ?_
          rintro e w2 ⟨rfl, b2⟩
          have HB2 := Lib.hid (below_then HB1.out b2)
          clear b2 c0
          go_wp2_with fail
          refine (HN.out _).mono ?_
          rintro e w3 ⟨rfl, rfl⟩
          go_wp2_with fail
          go_ret2
          exact ⟨ret_rd Z.out.2.symm Z.out.1.symm, HB2.out⟩
        · have hib := in_of hi
          have Z := Lib.hid (Z3.out rfl (by rw [zh]; exact in_yes (by omega) (by omega)))
          have HN := Lib.hid fun w => in_any n 0 60 w
          rw [hi] at HN
          have HF := Lib.hid fun w => shalf_any (2 * n) w
          rw [in_yes (by omega) (by omega)] at HF
          rw [zh] at Z
          have n0 : 0 ≤ n := hib.1
          have n60 : n ≤ 60 := hib.2
          clear Z2 Z3 zh hi hib
          go_enter Tryd.func11, Tryd.ntmps11
          go_wp2_with fail
          refine SP.out.mono ?_
          rintro e w1 ⟨v, rfl, HR, b1⟩
          obtain ⟨g, cap, rfl, _, _⟩ := HR.out.form (by simp)
          have c0 := (HR.out.cellAt 0 (by simp)).trans (by rfl : _ = some (.string ⟨p.toArray⟩))
          have HB1 := Lib.hid b1
          clear b1 HR
          go_wp2_with fail
          refine (R.out _).mono ?_
          rintro e w2 ⟨rfl, b2⟩
          have HB2 := Lib.hid (below_then HB1.out b2)
          clear b2 c0
          go_wp2_with fail
          refine (HN.out _).mono ?_
          rintro e w3 ⟨rfl, rfl⟩
          go_wp2_with fail
          refine (HF.out _).mono ?_
          rintro e w4 ⟨rfl, rfl⟩
          go_wp2_with fail
          go_ret2
          exact ⟨ret_rd Z.out.2.symm Z.out.1.symm, HB2.out⟩
    | cons q ps =>
      cases ps with
      | cons r ps =>
        have Z := Lib.hid (sz_no (more hP (.inl (by simp))))
        clear Z1 Z2 Z3 Z4 ZH hP
        obtain ⟨m, hm⟩ : ∃ m : Nat, m = ps.length := ⟨_, rfl⟩
        have hm3 : (2 : Int) < ((m + 1 + 1 + 1 : Nat) : Int) := by omega
        simp only [List.length_cons, ← hm] at SP
        generalize szN L = N at Z ⊢
        generalize szB L = b at Z ⊢
        generalize rdN p = n at R B
        generalize rdB p = ok at R
        obtain ⟨B1, B2⟩ := B
        clear hm
        cases ok
        all_goals
          go_enter Tryd.func11, Tryd.ntmps11
          go_wp2_with fail
          refine SP.out.mono ?_
          rintro e w1 ⟨v, rfl, HR, b1⟩
          obtain ⟨g, cap, rfl, _, _⟩ := HR.out.form (by simp)
          have c0 := (HR.out.cellAt 0 (by simp)).trans (by rfl : _ = some (.string ⟨p.toArray⟩))
          have HB1 := Lib.hid b1
          clear b1 HR
          go_wp2_with fail
          refine (R.out _).mono ?_
          rintro e w2 ⟨rfl, b2⟩
          have HB2 := Lib.hid (below_then HB1.out b2)
          clear b2 c0
          go_wp2_with fail
          go_ret2
          exact ⟨ret_rd Z.out.2.symm Z.out.1.symm, HB2.out⟩
      | nil =>
        by_cases hq : q = [53]
        · subst hq
          obtain ⟨ho, hw⟩ := two hP
          rw [ho, hw] at ZH
          rw [hw] at Z1 Z3
          clear hP ho hw Z4
          generalize rdN p = n at R B ZH
          generalize rdB p = ok at R Z1 Z3
          generalize szH L = h at ZH Z2 Z3
          generalize szN L = N at Z1 Z2 Z3 ⊢
          generalize szB L = b at Z1 Z2 Z3 ⊢
          obtain ⟨B1, B2⟩ := B
          have zh := ZH.out
          simp only [if_true] at zh
          clear ZH
          cases ok
          · have Z := Lib.hid (Z1.out rfl)
            clear Z1 Z2 Z3 zh
            go_enter Tryd.func11, Tryd.ntmps11
            go_wp2_with fail
            refine SP.out.mono ?_
            rintro e w1 ⟨v, rfl, HR, b1⟩
            obtain ⟨g, cap, rfl, _, _⟩ := HR.out.form (by simp)
            have c0 := (HR.out.cellAt 0 (by simp)).trans (by rfl : _ = some (.string ⟨p.toArray⟩))
            have HB1 := Lib.hid b1
            clear b1 HR
            go_wp2_with fail
            refine (R.out _).mono ?_
            rintro e w2 ⟨rfl, b2⟩
            have HB2 := Lib.hid (below_then HB1.out b2)
            clear b2 c0
            go_wp2_with fail
            go_ret2
            exact ⟨ret_rd Z.out.2.symm Z.out.1.symm, HB2.out⟩
          · clear Z1
            cases hi : inB n 0 60
            · have Z := Lib.hid (Z2.out (by rw [zh]; unfold inB at hi ⊢; simp at hi ⊢; omega))
              have HN := Lib.hid fun w => in_any n 0 60 w
              rw [hi] at HN
              clear Z2 Z3 zh hi
              go_enter Tryd.func11, Tryd.ntmps11
              go_wp2_with fail
              refine SP.out.mono ?_
              rintro e w1 ⟨v, rfl, HR, b1⟩
              obtain ⟨g, cap, rfl, _, _⟩ := HR.out.form (by simp)
              have c0 := (HR.out.cellAt 0 (by simp)).trans (by rfl : _ = some (.string ⟨p.toArray⟩))
              have c1 := (HR.out.cellAt 1 (by simp)).trans (by rfl : _ = some (.string ⟨#[53]⟩))
              have HB1 := Lib.hid b1
              clear b1 HR
              go_wp2_with fail
              refine (R.out _).mono ?_
              rintro e w2 ⟨rfl, b2⟩
              have c1' := (b2.cell (p := ⟨g, 1, none⟩) (World.block_lt_of_cell? w1 _ c1)).trans c1
              have HB2 := Lib.hid (below_then HB1.out b2)
              clear b2 c0 c1
              go_wp2_with fail
              refine (HN.out _).mono ?_
              rintro e w3 ⟨rfl, rfl⟩
              go_wp2_with fail
              go_ret2
              exact ⟨ret_rd Z.out.2.symm Z.out.1.symm, HB2.out⟩
            · have hib := in_of hi
              have HN := Lib.hid fun w => in_any n 0 60 w
              rw [hi] at HN
              have HF : Hid (∀ w, Calls Tryd.prog 13 #[.int .i64 (2 * n + 2 - 1)] w fun e w' => e = .returned (.bool (inB (2 * n + 1) 0 120)) ∧ w = w') := Lib.hid fun w => (shalf_any (2 * n + 2 - 1) w).mono fun e w' h => ⟨by rw [h.1, show (2 * n + 2 - 1 : Int) = 2 * n + 1 by omega], by first | exact h.2 | exact h.2.symm⟩
              have n0 : 0 ≤ n := hib.1
              have n60 : n ≤ 60 := hib.2
              cases hh : inB (2 * n + 1) 0 120
              · have Z := Lib.hid (Z2.out (by rw [zh]; exact hh))
                rw [hh] at HF
                clear Z2 Z3 zh hi hib hh
                go_enter Tryd.func11, Tryd.ntmps11
                go_wp2_with fail
                refine SP.out.mono ?_
                rintro e w1 ⟨v, rfl, HR, b1⟩
                obtain ⟨g, cap, rfl, _, _⟩ := HR.out.form (by simp)
                have c0 := (HR.out.cellAt 0 (by simp)).trans (by rfl : _ = some (.string ⟨p.toArray⟩))
                have c1 := (HR.out.cellAt 1 (by simp)).trans (by rfl : _ = some (.string ⟨#[53]⟩))
                have HB1 := Lib.hid b1
                clear b1 HR
                go_wp2_with fail
                refine (R.out _).mono ?_
                rintro e w2 ⟨rfl, b2⟩
                have c1' := (b2.cell (p := ⟨g, 1, none⟩) (World.block_lt_of_cell? w1 _ c1)).trans c1
                have HB2 := Lib.hid (below_then HB1.out b2)
                clear b2 c0 c1
                go_wp2_with fail
                refine (HN.out _).mono ?_
                rintro e w3 ⟨rfl, rfl⟩
                go_wp2_with fail
                refine (HF.out _).mono ?_
                rintro e w4 ⟨rfl, rfl⟩
                go_wp2_with fail
                go_ret2
                exact ⟨ret_rd Z.out.2.symm Z.out.1.symm, HB2.out⟩
              · have Z := Lib.hid (Z3.out rfl (by rw [zh]; exact hh))
                rw [hh] at HF
                rw [zh] at Z
                clear Z2 Z3 zh hi hib hh
                go_enter Tryd.func11, Tryd.ntmps11
                go_wp2_with fail
                refine SP.out.mono ?_
                rintro e w1 ⟨v, rfl, HR, b1⟩
                obtain ⟨g, cap, rfl, _, _⟩ := HR.out.form (by simp)
                have c0 := (HR.out.cellAt 0 (by simp)).trans (by rfl : _ = some (.string ⟨p.toArray⟩))
                have c1 := (HR.out.cellAt 1 (by simp)).trans (by rfl : _ = some (.string ⟨#[53]⟩))
                have HB1 := Lib.hid b1
                clear b1 HR
                go_wp2_with fail
                refine (R.out _).mono ?_
                rintro e w2 ⟨rfl, b2⟩
                have c1' := (b2.cell (p := ⟨g, 1, none⟩) (World.block_lt_of_cell? w1 _ c1)).trans c1
                have HB2 := Lib.hid (below_then HB1.out b2)
                clear b2 c0 c1
                go_wp2_with fail
                refine (HN.out _).mono ?_
                rintro e w3 ⟨rfl, rfl⟩
                go_wp2_with fail
                refine (HF.out _).mono ?_
                rintro e w4 ⟨rfl, rfl⟩
                go_wp2_with fail
                go_ret2
                exact ⟨ret_rd (by have := Z.out.2; omega) Z.out.1.symm, HB2.out⟩
        · have Z := Lib.hid (sz_no (more hP (.inr hq)))
          have h5 : (q == [53]) = false := by simpa using hq
          clear Z1 Z2 Z3 Z4 ZH hP hq
          generalize szN L = N at Z ⊢
          generalize szB L = b at Z ⊢
          generalize rdN p = n at R B
          generalize rdB p = ok at R
          obtain ⟨B1, B2⟩ := B
          cases ok
          all_goals
            go_enter Tryd.func11, Tryd.ntmps11
            go_wp2_with fail
            refine SP.out.mono ?_
            rintro e w1 ⟨v, rfl, HR, b1⟩
            obtain ⟨g, cap, rfl, _, _⟩ := HR.out.form (by simp)
            have c0 := (HR.out.cellAt 0 (by simp)).trans (by rfl : _ = some (.string ⟨p.toArray⟩))
            have c1 := (HR.out.cellAt 1 (by simp)).trans (by rfl : _ = some (.string ⟨q.toArray⟩))
            have HB1 := Lib.hid b1
            clear b1 HR
            go_wp2_with fail
            refine (R.out _).mono ?_
            rintro e w2 ⟨rfl, b2⟩
            have c1' := (b2.cell (p := ⟨g, 1, none⟩) (World.block_lt_of_cell? w1 _ c1)).trans c1
            have HB2 := Lib.hid (below_then HB1.out b2)
            clear b2 c0 c1
            go_wp2_with fail
            go_ret2
            exact ⟨ret_rd Z.out.2.symm Z.out.1.symm, HB2.out⟩
theorem law (s : ByteArray) (w : World) (hV : Vars w) (hs : s.size ≤ maxLen) : Calls Tryd.prog 5 #[.string s] w fun e w' => e = .returned (.bool true) ∧ Below w.heap.size w w' := by
  have hs' := hs
  unfold maxLen at hs'
  have HV := Lib.hid hV
  by_cases hbig : 1048576 < s.size
  · clear hV hs
    go_enter Tryd.func5, Tryd.ntmps5
    go_wp2_with fail
    go_ret
    exact ⟨rfl, Below.refl _ _⟩
  have S := Lib.hid fun w => spec_size s (by omega) w
  have I := Lib.hid fun w h => impl_size s (by omega) w h
  generalize szN s.data.toList = a at S I
  generalize szB s.data.toList = b at S I
  clear hV hs
  cases b
  all_goals
    go_enter Tryd.func5, Tryd.ntmps5
    go_wp2_with fail
    refine (S.out _).mono ?_
    rintro e w1 ⟨rfl, b1⟩
    have HV1 := Lib.hid (HV.out.below b1)
    go_wp2_with fail
    refine (I.out _ HV1.out).mono ?_
    rintro e w2 ⟨rfl, b2⟩
    have HB := Lib.hid (below_then b1 b2)
    clear b1 b2
    go_wp2_with fail
    go_ret
    exact ⟨rfl, HB.out⟩
end Go.Proofs.YtcmjbpjeiaifoabDoor.Ry
