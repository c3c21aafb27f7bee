/- ReadOutline: plain, and the spec's walk. -/
import Derived.Test.YtggbdpamjjgakabDoorRwLib
import Derived.Test.YtggbdpamjjgakabDoorOmLib
namespace Go.Proofs.YtggbdpamjjgakabDoor.Ro
open Go.RowKit Ba Dc Ds Rn Rs Tb Ri St
set_option linter.unusedVariables false

def P (L : List UInt8) (j : Nat) : List UInt8 := (spl 32 L).getD j []
theorem P_len (L : List UInt8) (j : Nat) : (P L j).length ≤ L.length := by
  unfold P
  rw [List.getD_eq_getElem?_getD]
  cases h : (spl 32 L)[j]? with
  | none => simp
  | some p => exact Rf.part_len 32 L p (List.mem_of_getElem? h)
theorem P_get {L : List UInt8} {j : Nat} (h : j < (spl 32 L).length) : (strs (spl 32 L))[j]? = some (.string ⟨(P L j).toArray⟩) := by
  unfold strs P
  rw [List.getElem?_map, List.getElem?_eq_getElem h]
  simp [List.getD_eq_getElem?_getD, List.getElem?_eq_getElem h]
theorem C_get {L : List UInt8} {j : Nat} (h : j < (spl 44 L).length) : (strs (spl 44 L))[j]? = some (.string ⟨(Rw.cfP L j).toArray⟩) := by
  unfold strs Rw.cfP
  rw [List.getElem?_map, List.getElem?_eq_getElem h]
  simp [List.getD_eq_getElem?_getD, List.getElem?_eq_getElem h]
theorem spl_first (c : UInt8) (L : List UInt8) : (spl c L).length + ((spl c L).getD 0 []).length ≤ L.length + 1 := by
  induction L with
  | nil => simp [spl]
  | cons x r ih =>
    unfold spl
    split
    · have := spl_len c r
      simp; omega
    · split
      · rename_i p ps h
        rw [h] at ih
        simp at ih ⊢; omega
      · simp
/-- The numbers of a text, two a part. -/
def F (L : List UInt8) (k : Nat) : Int := Rw.cfF (P L (k / 2)) (k % 2)
theorem F_0 (L : List UInt8) (k : Nat) : F L (k * 2) = Rw.cfF (P L k) 0 := by unfold F; rw [show k * 2 / 2 = k by omega, show k * 2 % 2 = 0 by omega]
theorem F_1 (L : List UInt8) (k : Nat) : F L (k * 2 + 1) = Rw.cfF (P L k) 1 := by unfold F; rw [show (k * 2 + 1) / 2 = k by omega, show (k * 2 + 1) % 2 = 1 by omega]
def All (L : List UInt8) : Prop := ∀ j, j < (spl 32 L).length → Rw.rsB (P L j) = true
noncomputable def B (L : List UInt8) : Bool := Ge.tv (All L) && Ol.outB (spl 32 L).length (F L)
noncomputable def K (L : List UInt8) : Nat := if B L then (spl 32 L).length else 0
theorem no_of {L : List UInt8} (h : B L = false) : B L = false ∧ K L = 0 := ⟨h, by unfold K; rw [h]; rfl⟩
theorem no_part {L : List UInt8} {j : Nat} (hj : j < (spl 32 L).length) (h : Rw.rsB (P L j) = false) : B L = false ∧ K L = 0 := no_of (by
  unfold B
  rw [Ge.tv_no fun a => by rw [a j hj] at h; cases h]; rfl)
theorem no_out {L : List UInt8} (h : Ol.outB (spl 32 L).length (F L) = false) : B L = false ∧ K L = 0 := no_of (by unfold B; rw [h, Bool.and_false])
theorem yes_all {L : List UInt8} (h : All L) (ho : Ol.outB (spl 32 L).length (F L) = true) : B L = true ∧ K L = (spl 32 L).length := by
  have hb : B L = true := by unfold B; rw [Ge.tv_yes h, ho]; rfl
  exact ⟨hb, by unfold K; rw [hb]; rfl⟩
theorem all_len {L : List UInt8} (h : Rw.rsB (P L 0) = true) : (spl 32 L).length ≤ L.length := by
  have h1 := spl_first 32 L
  have h2 : (P L 0).length ≠ 0 := fun e => by
    rw [List.length_eq_zero_iff.1 e] at h
    exact absurd h (by decide)
  unfold P at h2
  omega
/-- The spots of a text, and whether it is one of an outline. -/
def Post (L : List UInt8) (w : World) (e : Ending) (w' : World) : Prop :=
  ∃ A cap, e = .returned (.tuple #[.slice A (K L) cap, .bool (B L)]) ∧ Hid (Is.Own w' w.heap.size A (K L * 2) (F L)) ∧ Below w.heap.size w w'
theorem rs_two {q : List UInt8} (h : (spl 44 q).length = 2) (r0 : rdB (Rw.cfP q 0) = true) (r1 : rdB (Rw.cfP q 1) = true) : Rw.rsB q = true :=
  Rw.rs_all h fun j hj => by
    obtain rfl | rfl : j = 0 ∨ j = 1 := by omega
    · exact r0
    · exact r1

theorem own_more {w : World} {B B' n : Nat} {A : Option Addr} {f : Nat → Int} (h : Is.Own w B A n f) (hB : B' ≤ B) : Is.Own w B' A n f := fun hn => by
  obtain ⟨b, off, e, h1, h2⟩ := h hn
  exact ⟨b, off, e, Nat.le_trans hB h1, h2⟩
set_option maxRecDepth 100000 in
set_option maxHeartbeats 4000000 in
theorem spec_ro (s : ByteArray) (hs : s.size ≤ 1048576) (w : World) : Calls Tryd.prog 10 #[.string s] w (Post s.data.toList w) := by
  obtain ⟨i0, hi0, hz0, hz1, hz2⟩ := info_parts Ot.info_sp
  have HI := Lib.hid (And.intro hi0 (And.intro hz0 (And.intro hz1 hz2)))
  clear hi0 hz0 hz1 hz2
  have SP0 := fun w => split_any s 32 hs w
  rw [show (((32 : UInt8).toNat : Nat) : Int) = 32 by decide] at SP0
  have SP := Lib.hid SP0
  clear SP0
  have hsl : s.data.toList.length ≤ 1048576 := by simpa using hs
  clear hs
  generalize s.data.toList = L at SP hsl ⊢
  have S2 : Hid (∀ (k : Nat) w, Calls Tryd.prog 34 #[.string ⟨(P L k).toArray⟩, .int .u8 44] w fun e w' => ∃ v, e = .returned v ∧ Hid (w'.ownsRow w.heap.size 9 1 v (spl 44 (P L k)).length (strs (spl 44 (P L k)))) ∧ Below w.heap.size w w') := Lib.hid fun (k : Nat) w => by
    have h := split_any ⟨(P L k).toArray⟩ 44 (by show (P L k).length ≤ _; have := P_len L k; omega) w
    rw [show (((44 : UInt8).toNat : Nat) : Int) = 44 by decide] at h
    exact h
  have R : Hid (∀ (k i : Nat) w, Calls Tryd.prog 35 #[.string ⟨(Rw.cfP (P L k) i).toArray⟩] w fun e w' => e = .returned (.tuple #[.int .i64 (Rw.cfF (P L k) i), .bool (rdB (Rw.cfP (P L k) i))]) ∧ Below w.heap.size w w') := Lib.hid fun (k i : Nat) w => num_any ⟨(Rw.cfP (P L k) i).toArray⟩ (by show (Rw.cfP (P L k) i).length ≤ _; have := Rw.cfP_len (P L k) i; have := P_len L k; unfold maxLen; omega) w
  have NP := Lib.hid fun j hj h => no_part (L := L) (j := j) hj h
  have NO := Lib.hid fun h => no_out (L := L) h
  have YA : Hid ((∀ j, j < (spl 32 L).length → Rw.rsB (P L j) = true) → _ → _) := Lib.hid fun h ho => yes_all (L := L) h ho
  have YL : Hid ((Rw.rsB (P L 0) = true) → (spl 32 L).length ≤ 1048576) := Lib.hid fun h => Nat.le_trans (all_len h) hsl
  have GP := Lib.hid fun j h => P_get (L := L) (j := j) h
  have GC := Lib.hid fun k j h => C_get (L := P L k) (j := j) h
  have VO := Lib.hid fun n A c hn w hA => Oq.sok A n c (F L) hn w hA
  have R1 := Lib.hid fun k h => Rw.rs_len (L := P L k) h
  have R2 := Lib.hid fun k i hi h => Rw.rs_rd (L := P L k) (k := i) hi h
  have R3 := Lib.hid fun k h h0 h1 => rs_two (q := P L k) h h0 h1
  have HU : Hid (∀ k, Ge.upto (F L) ((k + 1) * 2) = Ge.upto (F L) (k * 2) ++ [.int .i64 (Rw.cfF (P L k) 0), .int .i64 (Rw.cfF (P L k) 1)]) := Lib.hid fun k => by rw [Ot.upto_two, F_0, F_1]
  have HU0 : Hid (Ge.upto (F L) (0 * 2) = []) := Lib.hid rfl
  have HOW := Lib.hid fun n w' B v h => Ot.own_of_row (n := n) (f := F L) (w' := w') (B := B) (v := v) h
  have hn1 : 1 ≤ (spl 32 L).length := List.length_pos_iff.2 (spl_ne 32 L)
  clear hsl
  unfold Post
  generalize F L = f at NO YA VO HU HU0 HOW ⊢
  generalize B L = b at NP NO YA ⊢
  generalize K L = N at NP NO YA ⊢
  generalize P L = p at *
  obtain ⟨n, hn⟩ : ∃ n, n = (spl 32 L).length := ⟨_, rfl⟩
  rw [← hn] at SP NP NO YA YL GP hn1
  generalize strs (spl 32 L) = xs at SP GP
  clear hn
  generalize Ge.upto f = UP at HU HU0 HOW
  go_enter Tryd.func10, Tryd.ntmps10
  go_wp2_with fail
  refine (SP.out _).mono ?_
  rintro e w2 ⟨v, rfl, HR, b2⟩
  have HB2 := Lib.hid b2
  have hz2 := b2.size
  clear b2
  obtain ⟨g, cap, rfl, _, hgl⟩ := HR.out.form (by omega)
  have CP : Hid (∀ k, k < n → w2.cell? ⟨g, k, none⟩ = some (.string ⟨(p k).toArray⟩)) := Lib.hid fun k hk => (HR.out.cellAt k (by omega)).trans (GP.out k hk)
  clear HR GP
  go_wp2_with fail
  have HB3 := Lib.hid (HB2.out.alloc hz2 (.cells #[] 61))
  go_loopw [5, 6, 7, 8, 9, 10, 11] (fun m i _ _ _ _ _ wr => ∃ (k : Nat) (v : Value), k ≤ n ∧ v = m ∧ i = .int .i64 (k : Int) ∧ Hid (Below w2.heap.size w2 wr) ∧ Hid (wr.ownsRow w2.heap.size 61 2 v k (UP (k * 2))) ∧ Hid (∀ j, j < k → Rw.rsB (p j) = true)) (fun _ i _ _ _ _ _ _ => n - (intOf i).toNat)
  case atStart => exact ⟨0, _, Nat.zero_le _, rfl, rfl, Lib.hid (below_box _ _), Lib.hid (by rw [HU0.out]; exact World.ownsRow_made w2 #[] 0 (Nat.le_refl _) (by simp [maxLen]) rfl), Lib.hid fun j hj => by omega⟩
  case round =>
    obtain ⟨k, v, hk, rfl, rfl, HB, HO, HD⟩ := hrel
    have hzr := HB.out.size
    have HBB := Lib.hid (below_then HB2.out HB.out)
    have f0 : (0 : Int) ≤ (k : Int) := Int.natCast_nonneg _
    by_cases hlt : k < n
    · have ck := (HB.out.cell (p := ⟨g, k, none⟩) hgl).trans (CP.out k hlt)
      have hk4 : (k : Int) < (n : Int) := by omega
      have SK := Lib.hid fun w => S2.out k w
      have RK := Lib.hid fun i w => R.out k i w
      have GK := Lib.hid fun j h => GC.out k j h
      have NK := Lib.hid fun h => NP.out k hlt h
      have K1 := Lib.hid fun h => R1.out k h
      have K2 := Lib.hid fun i hi h => R2.out k i hi h
      have K3 := Lib.hid fun h h0 h1 => R3.out k h h0 h1
      have HUk := Lib.hid (HU.out k)
      have HDk : Hid (Rw.rsB (p k) = true → ∀ j, j < k + 1 → Rw.rsB (p j) = true) := Lib.hid fun h j hj => by
        by_cases e : j = k
        · rw [e]; exact h
        · exact HD.out j (by omega)
      have HL : Hid (k + 1 ≤ 1048577) := Lib.hid (by
        by_cases e : k = 0
        · omega
        · have := YL.out (HD.out 0 (by omega)); omega)
      generalize Rw.rsB (p k) = rs at NK K1 K2 K3 HDk
      generalize Rw.cfF (p k) = F at RK HUk
      generalize Rw.cfP (p k) = q at RK GK K2 K3
      generalize (spl 44 (p k)).length = m at SK GK K1 K3
      generalize strs (spl 44 (p k)) = ys at SK GK
      generalize p k = pk at ck SK
      clear S2 R GC NP R1 R2 R3 HU HD YA YL NO VO HOW CP
      go_wp2_with fail
      refine (SK.out _).mono ?_
      rintro e w3 ⟨v2, rfl, HR2, b3⟩
      have HB3 := Lib.hid (below_then HBB.out b3)
      have HC3 := Lib.hid (HB.out.trans (b3.mono hzr))
      have HO3 := Lib.hid (St.row_below HO.out b3)
      clear b3 ck HO HB HBB SK
      by_cases h2 : m = 2
      · subst h2
        obtain ⟨g2, cap2, rfl, _, hg2⟩ := HR2.out.form (by omega)
        have y0 := (HR2.out.cellAt 0 (by omega)).trans (GK.out 0 (by omega))
        have y1 := (HR2.out.cellAt 1 (by omega)).trans (GK.out 1 (by omega))
        have Y1 := Lib.hid y1
        clear y1 HR2 GK K1
        have RA := Lib.hid fun w => RK.out 0 w
        have RB := Lib.hid fun w => RK.out 1 w
        have K3' : Hid (rdB (q 0) = true → rdB (q 1) = true → rs = true) := Lib.hid fun h0 h1 => K3.out (by first | rfl | trivial) h0 h1
        have K20 : Hid (rdB (q 0) = false → rs = false) := Lib.hid fun h => K2.out 0 (by omega) h
        have K21 : Hid (rdB (q 1) = false → rs = false) := Lib.hid fun h => K2.out 1 (by omega) h
        generalize rdB (q 0) = r0 at RA K3' K20
        generalize rdB (q 1) = r1 at RB K3' K21
        generalize q 0 = q0 at y0 RA
        generalize q 1 = q1 at Y1 RB
        generalize F 0 = x0 at RA HUk
        generalize F 1 = x1 at RB HUk
        clear RK K2 K3
        go_wp2_with fail
        refine (RA.out _).mono ?_
        rintro e w4 ⟨rfl, b4⟩
        have HB4 := Lib.hid (below_then HB3.out b4)
        have HC4 := Lib.hid (below_then HC3.out b4)
        have HO4 := Lib.hid (St.row_below HO3.out b4)
        have y1 := (b4.cell (p := ⟨g2, 1, none⟩) hg2).trans Y1.out
        clear b4 y0 Y1 HB3 HC3 HO3 RA
        go_wp2_with fail
        refine (RB.out _).mono ?_
        rintro e w5 ⟨rfl, b5⟩
        have HB5 := Lib.hid (below_then HB4.out b5)
        have HC5 := Lib.hid (below_then HC4.out b5)
        have HO5 := Lib.hid (St.row_below HO4.out b5)
        have hz5 := HC5.out.size
        clear b5 y1 HB4 HC4 HO4 RB
        cases r0
        · have Z := Lib.hid (NK.out (K20.out rfl))
          clear K20 K21 K3' NK HDk HUk
          cases r1 <;>
          · go_wp2_with fail
            exact bodyPost_ret (v := .tuple #[.slice none 0 0, .bool false]) (by simp [results, Tryd.results10, go_sem]) rfl ⟨none, 0, (by rw [Z.out.1, Z.out.2]), Lib.hid (fun h => absurd h (by rw [Z.out.2]; omega)), HB5.out⟩
        · cases r1
          · have Z := Lib.hid (NK.out (K21.out rfl))
            clear K20 K21 K3' NK HDk HUk
            go_wp2_with fail
            exact bodyPost_ret (v := .tuple #[.slice none 0 0, .bool false]) (by simp [results, Tryd.results10, go_sem]) rfl ⟨none, 0, (by rw [Z.out.1, Z.out.2]), Lib.hid (fun h => absurd h (by rw [Z.out.2]; omega)), HB5.out⟩
          · have HDD := Lib.hid (HDk.out (K3'.out rfl rfl))
            clear K20 K21 K3' NK HDk
            have hL := HL.out
            go_wp2_with (at_builtin; refine wpList_append_own _ rfl _ _ 22 rfl w2.heap.size 61 i0 _ 2 16 Tryd.underlying22 HI.out.1 HI.out.2.1 HI.out.2.2.1 HI.out.2.2.2 rfl (by decide) _ _ _ rfl (HO5.out.alloc _) ⟨w5.heap.size, 0, none⟩ 1 1 [.int .i64 x0, .int .i64 x1] rfl rfl ?c1 ?c2 ?c3 ?c4 ?c5 ?_)
            case c1 => exact Ot.cells_new2 _ _ _ _
            case c2 => simp [Value.oneCell']
            case c3 => unfold maxLen; omega
            case c4 => omega
            case c5 => first | omega | (simp <;> omega)
            intro v' w6 hown2 hgrow _
            have HQ := Lib.hid ((HC5.out.alloc hz5 _).grown hgrow (by simp; omega) fun g hg => (HO5.out.lt g hg).1)
            have HO2 : Hid (w6.ownsRow w2.heap.size 61 2 v' (k + 1) (UP ((k + 1) * 2))) := Lib.hid (by rw [HUk.out]; exact hown2)
            clear hown2 hgrow
            go_wp2_with fail
            go_roundw
            case rel => exact ⟨k + 1, _, by omega, rfl, by go_num, HQ, HO2, HDD⟩
            case measure => simp [intOf]; omega
      · have Z := Lib.hid (NK.out (K1.out h2))
        have hne : ¬ (m : Int) = 2 := by omega
        obtain ⟨a, cap2, rfl⟩ : ∃ a cap, v2 = .slice a m cap := by
          rcases HR2.out.2 with ⟨hv, h0⟩ | ⟨g, cap, cur, hv, _⟩
          · exact ⟨none, 0, by rw [hv, h0]⟩
          · exact ⟨_, cap, hv⟩
        clear HR2 NK K1 K2 K3 GK HDk HUk RK
        go_wp2_with fail
        exact bodyPost_ret (v := .tuple #[.slice none 0 0, .bool false]) (by simp [results, Tryd.results10, go_sem]) rfl ⟨none, 0, (by rw [Z.out.1, Z.out.2]), Lib.hid (fun h => absurd h (by rw [Z.out.2]; omega)), HB3.out⟩
    · obtain rfl : k = n := by omega
      have hkn : ¬ (k : Int) < (k : Int) := by omega
      obtain ⟨A, cap3, rfl, HOw⟩ := HOW.out _ _ _ _ HO.out
      have hkl := YL.out (HD.out 0 (by omega))
      have VK := Lib.hid (VO.out k A cap3 hkl wr HOw.nums)
      have YAk := Lib.hid fun ho => YA.out HD.out ho
      have HOW2 := Lib.hid (own_more HOw (show w.heap.size ≤ w2.heap.size from hz2))
      clear S2 R GC NP R1 R2 R3 HU HD YA YL VO HOW CP HOw HO
      generalize Ol.outB k f = o at NO YAk VK
      go_wp2_with fail
      refine VK.out.mono ?_
      rintro e w3 ⟨rfl, b3⟩
      have HB3 := Lib.hid (below_then HBB.out b3)
      have HO3 := Lib.hid (HOW2.out.below b3)
      clear b3 HOW2
      cases o
      · have Z := Lib.hid (NO.out rfl)
        go_wp2_with fail
        exact bodyPost_ret (v := .tuple #[.slice none 0 0, .bool false]) (by simp [results, Tryd.results10, go_sem]) rfl ⟨none, 0, (by rw [Z.out.1, Z.out.2]), Lib.hid (fun h => absurd h (by rw [Z.out.2]; omega)), HB3.out⟩
      · have Z := Lib.hid (YAk.out rfl)
        go_wp2_with fail
        exact bodyPost_ret (v := .tuple #[.slice A k cap3, .bool true]) (by simp [results, Tryd.results10, go_sem]) rfl ⟨A, cap3, (by rw [Z.out.1, Z.out.2]), Lib.hid (by rw [Z.out.2]; exact HO3.out), HB3.out⟩
end Go.Proofs.YtggbdpamjjgakabDoor.Ro
