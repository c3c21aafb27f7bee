/- ReadGrade: plain, and the spec's walk. -/
import Derived.Test.YtggbdpamjjgakabDoorRgLib
import Derived.Test.YtggbdpamjjgakabDoorRvLib
import Derived.Test.YtggbdpamjjgakabDoorGaLib
import Derived.Test.YtggbdpamjjgakabDoorBxLib
namespace Go.Proofs.YtggbdpamjjgakabDoor.Grd
open Go.RowKit Ba Dc Ds Rn Rs Tb Ri St Rz Rf Rg La Qb Ga
set_option linter.unusedVariables false

/-- Whether a text is a grade's, and its numbers. -/
def rgB (L : List UInt8) : Bool := Rv.rsB L && grB (rfF L)
def rgN (L : List UInt8) (j : Nat) : Int := if rgB L then rfF L j else 0
def Ng (L : List UInt8) : Prop := rgB L = false ∧ ∀ j, rgN L j = 0
theorem ng_of {L : List UInt8} (h : rgB L = false) : Ng L := ⟨h, fun j => by unfold rgN; rw [h]; rfl⟩
theorem ng_rs {L : List UInt8} (h : Rv.rsB L = false) : Ng L := ng_of (by unfold rgB; rw [h]; rfl)
theorem ng_len {L : List UInt8} (h : ¬ (spl 47 L).length = 5) : Ng L := ng_rs (Rv.rs_len h)
theorem ng_rd {L : List UInt8} {k : Nat} (hk : k < 5) (h : rdB (rfP L k) = false) : Ng L := ng_rs (Rv.rs_rd hk h)
theorem ng_gr {L : List UInt8} (h : grB (rfF L) = false) : Ng L := ng_of (by unfold rgB; rw [h, Bool.and_false])
theorem yg_rs {L : List UInt8} (h : Rv.rsB L = true) (hv : grB (rfF L) = true) : rgB L = true ∧ ∀ j, rgN L j = rfF L j := by
  have hb : rgB L = true := by unfold rgB; rw [h, hv]; rfl
  exact ⟨hb, fun j => by unfold rgN; rw [hb]; rfl⟩
theorem yg_all {L : List UInt8} (h5 : (spl 47 L).length = 5) (h : ∀ j, j < 5 → rdB (rfP L j) = true) (hv : grB (rfF L) = true) : rgB L = true ∧ ∀ j, rgN L j = rfF L j := yg_rs (Rv.rs_all h5 h) hv
theorem alloc_grade (w : World) : (Instr.alloc 50 true (.tuple #[])).run Tryd.prog w = .ok (.pointer (some ⟨w.heap.size, 0, none⟩)) (w.alloc (.cells [.int .i64 0, .int .i64 0, .int .i64 0, .int .i64 0, .int .i64 0].toArray 50)) := by kernel_rfl
set_option maxRecDepth 100000 in
set_option maxHeartbeats 4000000 in
theorem spec_grade (s : ByteArray) (hs : s.size ≤ 1048576) (w : World) : Calls Tryd.prog 31 #[.string s] w fun e w' => e = .returned (.tuple #[.agg #[.int .i64 (rgN s.data.toList 0), .int .i64 (rgN s.data.toList 1), .int .i64 (rgN s.data.toList 2), .int .i64 (rgN s.data.toList 3), .int .i64 (rgN s.data.toList 4)], .bool (rgB s.data.toList)]) ∧ Below w.heap.size w w' := by
  obtain ⟨i0, hi0, hz0, hz1, hz2⟩ := info_parts info_int
  have HI := Lib.hid (And.intro hi0 (And.intro hz0 (And.intro hz1 hz2)))
  clear hi0 hz0 hz1 hz2
  have SP0 := fun w => split_any s 47 hs w
  rw [show (((47 : UInt8).toNat : Nat) : Int) = 47 by decide] at SP0
  have SP := Lib.hid SP0
  clear SP0
  have hsl : s.data.toList.length ≤ 1048576 := by simpa using hs
  clear hs
  generalize s.data.toList = L at SP hsl ⊢
  have R : Hid (∀ (k : Nat) w, Calls Tryd.prog 35 #[.string ⟨(rfP L k).toArray⟩] w fun e w' => e = .returned (.tuple #[.int .i64 (rfF L k), .bool (rdB (rfP L k))]) ∧ Below w.heap.size w w') := Lib.hid fun (k : Nat) w => num_any ⟨(rfP L k).toArray⟩ (by show (rfP L k).length ≤ _; have := rfP_len L k; unfold maxLen; omega) w
  have NL := Lib.hid fun h => ng_len (L := L) h
  have NR := Lib.hid fun k hk h => ng_rd (L := L) (k := k) hk h
  have NF := Lib.hid fun h => ng_gr (L := L) h
  have YA := Lib.hid fun h4 h hv => yg_all (L := L) h4 h hv
  have GP := Lib.hid fun j h => rfP_get (L := L) (j := j) h
  have FT : Hid (∀ w, Calls Tryd.prog 55 #[fvV (rfF L)] w fun e w' => e = .returned (.bool (grB (rfF L))) ∧ Below w.heap.size w w') := Lib.hid fun w => ok_any (rfF L) w
  clear hsl
  unfold Ng at NL NR NF
  generalize grB (rfF L) = fv at NF YA FT
  generalize rfF L = F at R YA FT
  generalize rfP L = p at R NR YA GP
  unfold fvV at FT
  generalize rgN L = N at NL NR NF YA ⊢
  generalize rgB L = b at NL NR NF YA ⊢
  obtain ⟨n, hn⟩ : ∃ n, n = (spl 47 L).length := ⟨_, rfl⟩
  rw [← hn] at SP NL YA GP
  generalize strs (spl 47 L) = xs at SP GP
  clear hn
  go_enter Tryd.func31, Tryd.ntmps31
  have KR0 := Lib.hid (blk_new w (.cells #[.int .i64 0, .int .i64 0, .int .i64 0, .int .i64 0, .int .i64 0] 50))
  have HB0 := Lib.hid (below_box w (.cells #[.int .i64 0, .int .i64 0, .int .i64 0, .int .i64 0, .int .i64 0] 50))
  go_wp2_with fail
  refine (SP.out _).mono ?_
  rintro e w2 ⟨v, rfl, HR, b2⟩
  have HB2 := Lib.hid (below_then HB0.out b2)
  have KR2 := Lib.hid (Ba.blk_keep b2 KR0.out)
  clear b2 KR0 HB0
  have hsz2 := HB2.out.size
  by_cases h4 : n = 5
  · subst h4
    obtain ⟨g, cap, rfl, _, hgl⟩ := HR.out.form (by omega)
    have CP : Hid (∀ k, k < 5 → w2.cell? ⟨g, k, none⟩ = some (.string ⟨(p k).toArray⟩)) := Lib.hid fun k hk => (HR.out.cellAt k (by omega)).trans (GP.out k hk)
    clear HR NL GP
    have KR3 := Lib.hid (blk_old (.cells #[] 2) KR2.out)
    have HB3 := Lib.hid (HB2.out.alloc hsz2 (.cells #[] 2))
    go_wp2_with fail
    go_loopw [5, 6, 7, 8] (fun m i _ _ wr => ∃ (k : Nat) (v : Value), k ≤ 5 ∧ v = m ∧ i = .int .i64 (k : Int) ∧ Hid (Below w2.heap.size w2 wr) ∧ Hid (wr.ownsRow w2.heap.size 2 1 v k (upto F k)) ∧ Hid (∀ j, j < k → rdB (p j) = true)) (fun _ i _ _ _ => 5 - (intOf i).toNat)
    case atStart => exact ⟨0, _, Nat.zero_le _, rfl, rfl, Lib.hid (below_box _ _), Lib.hid (World.ownsRow_made w2 #[] 0 (Nat.le_refl _) (by simp [maxLen]) rfl), Lib.hid fun j hj => by omega⟩
    case round =>
      obtain ⟨k, v, hk, rfl, rfl, HB, HO, HD⟩ := hrel
      have HBB := Lib.hid (below_then HB2.out HB.out)
      have KR := Lib.hid (Ba.blk_keep HB.out KR2.out)
      have hzr := HB.out.size
      by_cases hlt : k < 5
      · have RK := Lib.hid fun w => R.out k w
        have NK := Lib.hid fun h => NR.out k hlt h
        have ck := (HB.out.cell (p := ⟨g, k, none⟩) hgl).trans (CP.out k hlt)
        have hk4 : (k : Int) < 5 := by omega
        cases hok : rdB (p k)
        · have Z := Lib.hid (NK.out hok)
          rw [hok] at RK
          clear hok NK
          go_wp2_with fail
          refine (RK.out _).mono ?_
          rintro e w3 ⟨rfl, b3⟩
          have HB4 := Lib.hid (below_then HBB.out b3)
          have KR4 := Lib.hid (Ba.blk_keep b3 KR.out)
          have hz4 := HB4.out.size
          clear b3 ck
          obtain ⟨z0, z1, z2, z3, z4⟩ := blk5 KR4.out
          have hfr := blk_free KR4.out
          have hl4 := lt_of_heap KR4.out
          go_wp2_with fail
          rw [Z.out.1, Z.out.2, Z.out.2, Z.out.2, Z.out.2, Z.out.2]
          exact bodyPost_ret (v := .tuple #[.agg #[.int .i64 0, .int .i64 0, .int .i64 0, .int .i64 0, .int .i64 0], .bool false]) (by simp [results, Tryd.results31, go_sem, z0, z1, z2, z3, z4]) rfl
            ⟨rfl, ((((HB4.out.setCell (by simp) _).setCell (by simp) _).setCell (by simp) _).setCell (by simp) _).setCell (by simp) _⟩
        · have HD' : Hid (∀ j, j < k + 1 → rdB (p j) = true) := Lib.hid fun j hj => by
            by_cases e : j = k
            · rw [e]; exact hok
            · exact HD.out j (by omega)
          rw [hok] at RK
          clear hok NK
          go_wp2_with fail
          refine (RK.out _).mono ?_
          rintro e w3 ⟨rfl, b3⟩
          have HB4 := Lib.hid (below_then HB.out b3)
          have HO4 := Lib.hid (row_below HO.out b3)
          have hz := HB4.out.size
          clear b3 ck
          go_wp2_with (at_builtin; refine wpList_append_own _ rfl (.tmp 32) (.tmp 34) 66 rfl w2.heap.size 2 i0 _ 1 8 Tryd.underlying66 HI.out.1 HI.out.2.1 HI.out.2.2.1 HI.out.2.2.2 rfl (by decide) v k (upto F k) rfl (row_below HO4.out (below_box _ _)) ⟨w3.heap.size, 0, none⟩ 1 1 [.int .i64 (F k)] rfl rfl ?c1 ?c2 ?c3 ?c4 ?c5 ?_)
          case c1 => exact fun j u hu => by rw [Addr.add_lit, Nat.zero_add]; exact cell_one _ _ _ j u hu
          case c2 => simp [Value.oneCell']
          case c3 => unfold maxLen; omega
          case c4 => omega
          case c5 => simp; omega
          intro v' w5 hown hgrow _
          have HQ5 := Lib.hid ((HB4.out.alloc hz _).grown hgrow (by simp; omega) fun g hg => (HO4.out.lt g hg).1)
          have HO5 : Hid (w5.ownsRow w2.heap.size 2 1 v' (k + 1) (upto F (k + 1))) := Lib.hid (by rw [upto_snoc]; exact hown)
          clear hown hgrow
          go_wp2_with fail
          go_roundw
          case rel => exact ⟨k + 1, v', by omega, rfl, by go_num, HQ5, HO5, HD'⟩
          case measure => simp [intOf]; omega
      · obtain rfl : k = 5 := by omega
        obtain ⟨g2, cap2, rfl, _, hg2⟩ := HO.out.form (by omega)
        have XC : Hid (∀ j, j < 5 → wr.cell? ⟨g2, j, none⟩ = some (.int .i64 (F j))) := Lib.hid fun j hj => (HO.out.cellAt j hj).trans (upto_get F hj)
        have YA' := Lib.hid fun hv => YA.out (by trivial) HD.out hv
        clear hk hlt HO NR YA R CP HD HB HB2 KR2
        go_upto_region 12 with fail
        refine Bx.wp_region_box 16 17 (z := [.int .i64 0, .int .i64 0, .int .i64 0, .int .i64 0, .int .i64 0]) (cs := [.int .i64 (F 0), .int .i64 (F 1), .int .i64 (F 2), .int .i64 (F 3), .int .i64 (F 4)]) (by kernel_rfl) (by kernel_rfl) (by decide) rfl rfl rfl rfl rfl rfl rfl rfl (by simp only [Bx.without, List.take, List.drop, List.cons_append, List.nil_append, Nat.reduceSub]; exact rfl) (by kernel_rfl) alloc_grade rfl (by kernel_rfl) (by simp [Value.oneCell']) (by simp) ?_
        apply Exists.intro
        refine ⟨fun w' hw' => ?_, ⟨?_, ?_⟩, fun g6 w3 hg6 b3 k6 => ?_⟩
        · have x0 := bey_cell ((hw'.cell (p := ⟨g2, 0, none⟩) hg2).trans (XC.out 0 (by omega)))
          have x1 := bey_cell ((hw'.cell (p := ⟨g2, 1, none⟩) hg2).trans (XC.out 1 (by omega)))
          have x2 := bey_cell ((hw'.cell (p := ⟨g2, 2, none⟩) hg2).trans (XC.out 2 (by omega)))
          have x3 := bey_cell ((hw'.cell (p := ⟨g2, 3, none⟩) hg2).trans (XC.out 3 (by omega)))
          have x4 := bey_cell ((hw'.cell (p := ⟨g2, 4, none⟩) hg2).trans (XC.out 4 (by omega)))
          repeat (go_big_quiet_step (fail))
          exact wpQuiet_nil rfl
        · rfl
        · simp
        · have HB5 := Lib.hid (below_then HBB.out b3)
          have KR5 := Lib.hid (Ba.blk_keep b3 KR.out)
          have K6 := Lib.hid k6
          have hlr := lt_of_heap KR.out
          have n1 : g6 ≠ w.heap.size := by omega
          have hb6 := lt_of_heap k6
          obtain ⟨a0, a1, a2, a3, a4⟩ := blk5 k6
          clear b3 k6 KR HBB XC
          simp only [Act.put, List.setIfInBounds_toArray, List.set_cons_succ, List.set_cons_zero]
          go_wp2_with fail
          refine (FT.out _).mono ?_
          rintro e w4 ⟨rfl, b4⟩
          have HB6 := Lib.hid (below_then HB5.out b4)
          have KR6 := Lib.hid (Ba.blk_keep b4 KR5.out)
          obtain ⟨a0, a1, a2, a3, a4⟩ := blk5 (Ba.blk_keep b4 K6.out)
          have hz6 := HB6.out.size
          clear b4
          obtain ⟨z0, z1, z2, z3, z4⟩ := blk5 KR6.out
          have hfr := blk_free KR6.out
          have hl6 := lt_of_heap KR6.out
          cases hfv : fv
          · have Z := Lib.hid (NF.out hfv)
            clear NF YA' FT
            go_wp2_with fail
            rw [Z.out.1, Z.out.2, Z.out.2, Z.out.2, Z.out.2, Z.out.2]
            exact bodyPost_ret (v := .tuple #[.agg #[.int .i64 0, .int .i64 0, .int .i64 0, .int .i64 0, .int .i64 0], .bool false]) (by simp [results, Tryd.results31, go_sem, z0, z1, z2, z3, z4]) rfl
              ⟨rfl, ((((HB6.out.setCell (by simp) _).setCell (by simp) _).setCell (by simp) _).setCell (by simp) _).setCell (by simp) _⟩
          · have Z := Lib.hid (YA'.out hfv)
            clear NF YA' FT
            go_wp2_with fail
            rw [Z.out.1, Z.out.2, Z.out.2, Z.out.2, Z.out.2, Z.out.2]
            exact bodyPost_ret (v := .tuple #[.agg #[.int .i64 (F 0), .int .i64 (F 1), .int .i64 (F 2), .int .i64 (F 3), .int .i64 (F 4)], .bool true]) (by simp [results, Tryd.results31, go_sem, z0, z1, z2, z3, z4]) rfl
              ⟨rfl, ((((HB6.out.setCell (by simp) _).setCell (by simp) _).setCell (by simp) _).setCell (by simp) _).setCell (by simp) _⟩
  · have Z := Lib.hid (NL.out h4)
    have hne : ¬ (n : Int) = 5 := by omega
    obtain ⟨a, cap, rfl⟩ : ∃ a cap, v = .slice a n cap := by
      rcases HR.out.2 with ⟨hv, h0⟩ | ⟨g, cap, cur, hv, _⟩
      · exact ⟨none, 0, by rw [hv, h0]⟩
      · exact ⟨_, cap, hv⟩
    clear HR NL NR NF YA GP FT R
    obtain ⟨z0, z1, z2, z3, z4⟩ := blk5 KR2.out
    have hfr := blk_free KR2.out
    have hl4 := lt_of_heap KR2.out
    go_wp2_with fail
    rw [Z.out.1, Z.out.2, Z.out.2, Z.out.2, Z.out.2, Z.out.2]
    exact bodyPost_ret (v := .tuple #[.agg #[.int .i64 0, .int .i64 0, .int .i64 0, .int .i64 0, .int .i64 0], .bool false]) (by simp [results, Tryd.results31, go_sem, z0, z1, z2, z3, z4]) rfl
      ⟨rfl, ((((HB2.out.setCell (by simp) _).setCell (by simp) _).setCell (by simp) _).setCell (by simp) _).setCell (by simp) _⟩
end Go.Proofs.YtggbdpamjjgakabDoor.Grd
