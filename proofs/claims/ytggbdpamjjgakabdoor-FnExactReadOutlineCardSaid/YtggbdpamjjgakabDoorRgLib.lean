/- ReadFoot: the spec's walk. -/
import Derived.Test.YtggbdpamjjgakabDoorRfLib
namespace Go.Proofs.YtggbdpamjjgakabDoor.Rg
open Go.RowKit Ba Dc Ds Rn Rs Tb Ri St Rz Rf
set_option linter.unusedVariables false

theorem num_row {w w' : World} {base : Nat} {e : TypeId} {size n : Nat} {v : Value} {xs : List Value} (h : w.ownsRow base e size v n xs) (hb : Below w.heap.size w w') : w'.ownsRow base e size v n xs := row_below h hb
theorem keep_of {w2 w' : World} {g i : Nat} {v : Value} (hb : Below w2.heap.size w2 w') (hg : g < w2.heap.size) (h : w2.cell? ⟨g, i, none⟩ = some v) : w'.cell? ⟨g, i, none⟩ = some v := (hb.cell (p := ⟨g, i, none⟩) hg).trans h
set_option maxRecDepth 100000 in
set_option maxHeartbeats 4000000 in
theorem spec_foot (s : ByteArray) (hs : s.size ≤ 1048576) (w : World) : Calls Tryd.prog 18 #[.string s] w fun e w' => e = .returned (.tuple #[.agg #[.int .i64 (rfN s.data.toList 0), .int .i64 (rfN s.data.toList 1), .int .i64 (rfN s.data.toList 2), .int .i64 (rfN s.data.toList 3)], .bool (rfB s.data.toList)]) ∧ Below w.heap.size w w' := by
  obtain ⟨i0, hi0, hz0, hz1, hz2⟩ := info_parts info_int
  have HI := Lib.hid (And.intro hi0 (And.intro hz0 (And.intro hz1 hz2)))
  clear hi0 hz0 hz1 hz2
  have SP0 := fun w => split_any s 47 hs w
  rw [show (((47 : UInt8).toNat : Nat) : Int) = 47 by decide] at SP0
  have SP := Lib.hid SP0
  clear SP0
  have hsl : s.data.toList.length ≤ 1048576 := by simpa using hs
  clear hs
  generalize s.data.toList = L at SP hsl ⊢
  have R : Hid (∀ (k : Nat) w, Calls Tryd.prog 35 #[.string ⟨(rfP L k).toArray⟩] w fun e w' => e = .returned (.tuple #[.int .i64 (rfF L k), .bool (rdB (rfP L k))]) ∧ Below w.heap.size w w') := Lib.hid fun (k : Nat) w => num_any ⟨(rfP L k).toArray⟩ (by show (rfP L k).length ≤ _; have := rfP_len L k; unfold maxLen; omega) w
  have NL := Lib.hid fun h => no_len (L := L) h
  have NR := Lib.hid fun k hk h => no_rd (L := L) (k := k) hk h
  have NF := Lib.hid fun h => no_ft (L := L) h
  have YA := Lib.hid fun h4 h hv => yes_all (L := L) h4 h hv
  have GP := Lib.hid fun j h => rfP_get (L := L) (j := j) h
  have FT : Hid (∀ w, Calls Tryd.prog 41 #[.agg #[.int .i64 (rfF L 0), .int .i64 (rfF L 1), .int .i64 (rfF L 2), .int .i64 (rfF L 3)]] w fun e w' => e = .returned (.bool (rfV L)) ∧ Below w.heap.size w w') := Lib.hid fun w => Ft.foot_any (rfF L 0) (rfF L 1) (rfF L 2) (rfF L 3) w
  clear hsl
  unfold No at NL NR NF
  generalize rfF L = F at R YA FT
  generalize rfP L = p at R NR YA GP
  generalize rfV L = fv at NF YA FT
  generalize rfN L = N at NL NR NF YA ⊢
  generalize rfB L = b at NL NR NF YA ⊢
  obtain ⟨n, hn⟩ : ∃ n, n = (spl 47 L).length := ⟨_, rfl⟩
  rw [← hn] at SP NL YA GP
  generalize strs (spl 47 L) = xs at SP GP
  clear hn
  go_enter Tryd.func18, Tryd.ntmps18
  have KR0 := Lib.hid (blk_new w (.cells #[.int .i64 0, .int .i64 0, .int .i64 0, .int .i64 0] 31))
  have HB0 := Lib.hid (below_box w (.cells #[.int .i64 0, .int .i64 0, .int .i64 0, .int .i64 0] 31))
  go_wp2_with fail
  refine (SP.out _).mono ?_
  rintro e w2 ⟨v, rfl, HR, b2⟩
  have HB2 := Lib.hid (below_then HB0.out b2)
  have KR2 := Lib.hid (Ba.blk_keep b2 KR0.out)
  clear b2 KR0 HB0
  have hsz2 := HB2.out.size
  by_cases h4 : n = 4
  · subst h4
    obtain ⟨g, cap, rfl, _, hgl⟩ := HR.out.form (by omega)
    have CP : Hid (∀ k, k < 4 → w2.cell? ⟨g, k, none⟩ = some (.string ⟨(p k).toArray⟩)) := Lib.hid fun k hk => (HR.out.cellAt k (by omega)).trans (GP.out k hk)
    clear HR NL GP
    have KR3 := Lib.hid (blk_old (.cells #[] 2) KR2.out)
    have HB3 := Lib.hid (HB2.out.alloc hsz2 (.cells #[] 2))
    go_wp2_with fail
    go_loopw [5, 6, 7, 8] (fun m i _ _ wr => ∃ (k : Nat) (v : Value), k ≤ 4 ∧ v = m ∧ i = .int .i64 (k : Int) ∧ Hid (Below w2.heap.size w2 wr) ∧ Hid (wr.ownsRow w2.heap.size 2 1 v k (upto F k)) ∧ Hid (∀ j, j < k → rdB (p j) = true)) (fun _ i _ _ _ => 4 - (intOf i).toNat)
    case atStart => exact ⟨0, _, Nat.zero_le _, rfl, rfl, Lib.hid (below_box _ _), Lib.hid (World.ownsRow_made w2 #[] 0 (Nat.le_refl _) (by simp [maxLen]) rfl), Lib.hid fun j hj => by omega⟩
    case round =>
      obtain ⟨k, v, hk, rfl, rfl, HB, HO, HD⟩ := hrel
      have HBB := Lib.hid (below_then HB2.out HB.out)
      have KR := Lib.hid (Ba.blk_keep HB.out KR2.out)
      have hzr := HB.out.size
      by_cases hlt : k < 4
      · have RK := Lib.hid fun w => R.out k w
        have NK := Lib.hid fun h => NR.out k hlt h
        have ck := (HB.out.cell (p := ⟨g, k, none⟩) hgl).trans (CP.out k hlt)
        have hk4 : (k : Int) < 4 := by omega
        cases hok : rdB (p k)
        · have Z := Lib.hid (NK.out hok)
          rw [hok] at RK
          clear hok NK
          go_wp2_with fail
          refine (RK.out _).mono ?_
          rintro e w3 ⟨rfl, b3⟩
          have HB4 := Lib.hid (below_then HBB.out b3)
          have KR4 := Lib.hid (Ba.blk_keep b3 KR.out)
          have hz4 := HB4.out.size
          clear b3 ck
          obtain ⟨z0, z1, z2, z3⟩ := blk4 KR4.out
          have hfr := blk_free KR4.out
          have hl4 := lt_of_heap KR4.out
          go_wp2_with fail
          rw [Z.out.1, Z.out.2, Z.out.2, Z.out.2, Z.out.2]
          exact bodyPost_ret (v := .tuple #[.agg #[.int .i64 0, .int .i64 0, .int .i64 0, .int .i64 0], .bool false]) (by simp [results, Tryd.results18, go_sem, z0, z1, z2, z3]) rfl
            ⟨rfl, (((HB4.out.setCell (by simp) _).setCell (by simp) _).setCell (by simp) _).setCell (by simp) _⟩
        · have HD' : Hid (∀ j, j < k + 1 → rdB (p j) = true) := Lib.hid fun j hj => by
            by_cases e : j = k
            · rw [e]; exact hok
            · exact HD.out j (by omega)
          rw [hok] at RK
          clear hok NK
          go_wp2_with fail
          refine (RK.out _).mono ?_
          rintro e w3 ⟨rfl, b3⟩
          have HB4 := Lib.hid (below_then HB.out b3)
          have HO4 := Lib.hid (row_below HO.out b3)
          have hz := HB4.out.size
          clear b3 ck
          go_wp2_with (at_builtin; refine wpList_append_own _ rfl (.tmp 31) (.tmp 33) 66 rfl w2.heap.size 2 i0 _ 1 8 Tryd.underlying66 HI.out.1 HI.out.2.1 HI.out.2.2.1 HI.out.2.2.2 rfl (by decide) v k (upto F k) rfl (row_below HO4.out (below_box _ _)) ⟨w3.heap.size, 0, none⟩ 1 1 [.int .i64 (F k)] rfl rfl ?c1 ?c2 ?c3 ?c4 ?c5 ?_)
          case c1 => exact fun j u hu => by rw [Addr.add_lit, Nat.zero_add]; exact cell_one _ _ _ j u hu
          case c2 => simp [Value.oneCell']
          case c3 => unfold maxLen; omega
          case c4 => omega
          case c5 => simp; omega
          intro v' w5 hown hgrow _
          have HQ5 := Lib.hid ((HB4.out.alloc hz _).grown hgrow (by simp; omega) fun g hg => (HO4.out.lt g hg).1)
          have HO5 : Hid (w5.ownsRow w2.heap.size 2 1 v' (k + 1) (upto F (k + 1))) := Lib.hid (by rw [upto_snoc]; exact hown)
          clear hown hgrow
          go_wp2_with fail
          go_roundw
          case rel => exact ⟨k + 1, v', by omega, rfl, by go_num, HQ5, HO5, HD'⟩
          case measure => simp [intOf]; omega
      · obtain rfl : k = 4 := by omega
        obtain ⟨g2, cap2, rfl, _, hg2⟩ := HO.out.form (by omega)
        have x0 := (HO.out.cellAt 0 (by omega)).trans (upto_get F (by omega))
        have x1 := (HO.out.cellAt 1 (by omega)).trans (upto_get F (by omega))
        have x2 := (HO.out.cellAt 2 (by omega)).trans (upto_get F (by omega))
        have x3 := (HO.out.cellAt 3 (by omega)).trans (upto_get F (by omega))
        have X := Lib.hid (And.intro x0 (And.intro x1 (And.intro x2 x3)))
        clear x0 x1 x2 x3 hk hlt
        have YA' := Lib.hid fun hv => YA.out (by trivial) HD.out hv
        cases hfv : fv
        · have Z := Lib.hid (NF.out hfv)
          rw [hfv] at FT
          clear hfv NF NR YA YA' R
          go_wp2_with fail
          refine (of_any (F 0) (F 1) (F 2) (F 3) g2 cap2 _ X.out.1 X.out.2.1 X.out.2.2.1 X.out.2.2.2).mono ?_
          rintro e w3 ⟨rfl, b3⟩
          have HB4 := Lib.hid (below_then HBB.out b3)
          have KR4 := Lib.hid (Ba.blk_keep b3 KR.out)
          clear b3
          go_wp2_with fail
          refine (FT.out _).mono ?_
          rintro e w4 ⟨rfl, b4⟩
          have HB5 := Lib.hid (below_then HB4.out b4)
          have KR5 := Lib.hid (Ba.blk_keep b4 KR4.out)
          have hz5 := HB5.out.size
          clear b4
          obtain ⟨z0, z1, z2, z3⟩ := blk4 KR5.out
          have hfr := blk_free KR5.out
          have hl5 := lt_of_heap KR5.out
          go_wp2_with fail
          rw [Z.out.1, Z.out.2, Z.out.2, Z.out.2, Z.out.2]
          exact bodyPost_ret (v := .tuple #[.agg #[.int .i64 0, .int .i64 0, .int .i64 0, .int .i64 0], .bool false]) (by simp [results, Tryd.results18, go_sem, z0, z1, z2, z3]) rfl
            ⟨rfl, (((HB5.out.setCell (by simp) _).setCell (by simp) _).setCell (by simp) _).setCell (by simp) _⟩
        · have Z := Lib.hid (YA'.out hfv)
          rw [hfv] at FT
          clear hfv NF NR YA YA' R
          go_wp2_with fail
          refine (of_any (F 0) (F 1) (F 2) (F 3) g2 cap2 _ X.out.1 X.out.2.1 X.out.2.2.1 X.out.2.2.2).mono ?_
          rintro e w3 ⟨rfl, b3⟩
          have HB4 := Lib.hid (below_then HBB.out b3)
          have KR4 := Lib.hid (Ba.blk_keep b3 KR.out)
          have x0 := keep_of b3 hg2 X.out.1
          have x1 := keep_of b3 hg2 X.out.2.1
          have x2 := keep_of b3 hg2 X.out.2.2.1
          have x3 := keep_of b3 hg2 X.out.2.2.2
          have hg3 := Nat.lt_of_lt_of_le hg2 b3.size
          have X3 := Lib.hid (And.intro x0 (And.intro x1 (And.intro x2 x3)))
          clear b3 x0 x1 x2 x3
          go_wp2_with fail
          refine (FT.out _).mono ?_
          rintro e w4 ⟨rfl, b4⟩
          have HB5 := Lib.hid (below_then HB4.out b4)
          have KR5 := Lib.hid (Ba.blk_keep b4 KR4.out)
          have x0 := keep_of b4 hg3 X3.out.1
          have x1 := keep_of b4 hg3 X3.out.2.1
          have x2 := keep_of b4 hg3 X3.out.2.2.1
          have x3 := keep_of b4 hg3 X3.out.2.2.2
          clear b4
          go_wp2_with fail
          refine (of_any (F 0) (F 1) (F 2) (F 3) g2 cap2 _ x0 x1 x2 x3).mono ?_
          rintro e w5 ⟨rfl, b5⟩
          have HB6 := Lib.hid (below_then HB5.out b5)
          have KR6 := Lib.hid (Ba.blk_keep b5 KR5.out)
          have hz6 := HB6.out.size
          clear b5 x0 x1 x2 x3
          obtain ⟨z0, z1, z2, z3⟩ := blk4 KR6.out
          have hfr := blk_free KR6.out
          have hl6 := lt_of_heap KR6.out
          go_wp2_with fail
          rw [Z.out.1, Z.out.2, Z.out.2, Z.out.2, Z.out.2]
          exact bodyPost_ret (v := .tuple #[.agg #[.int .i64 (F 0), .int .i64 (F 1), .int .i64 (F 2), .int .i64 (F 3)], .bool true]) (by simp [results, Tryd.results18, go_sem, z0, z1, z2, z3]) rfl
            ⟨rfl, (((HB6.out.setCell (by simp) _).setCell (by simp) _).setCell (by simp) _).setCell (by simp) _⟩
  · have Z := Lib.hid (NL.out h4)
    have hne : ¬ (n : Int) = 4 := by omega
    obtain ⟨a, cap, rfl⟩ : ∃ a cap, v = .slice a n cap := by
      rcases HR.out.2 with ⟨hv, h0⟩ | ⟨g, cap, cur, hv, _⟩
      · exact ⟨none, 0, by rw [hv, h0]⟩
      · exact ⟨_, cap, hv⟩
    clear HR NL NR NF YA GP FT R
    obtain ⟨z0, z1, z2, z3⟩ := blk4 KR2.out
    have hfr := blk_free KR2.out
    have hl4 := lt_of_heap KR2.out
    go_wp2_with fail
    rw [Z.out.1, Z.out.2, Z.out.2, Z.out.2, Z.out.2]
    exact bodyPost_ret (v := .tuple #[.agg #[.int .i64 0, .int .i64 0, .int .i64 0, .int .i64 0], .bool false]) (by simp [results, Tryd.results18, go_sem, z0, z1, z2, z3]) rfl
      ⟨rfl, (((HB2.out.setCell (by simp) _).setCell (by simp) _).setCell (by simp) _).setCell (by simp) _⟩
end Go.Proofs.YtggbdpamjjgakabDoor.Rg
