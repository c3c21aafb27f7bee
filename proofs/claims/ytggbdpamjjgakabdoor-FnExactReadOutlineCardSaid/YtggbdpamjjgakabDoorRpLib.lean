/- ReadOutline: the program's walk. -/
import Derived.Test.YtggbdpamjjgakabDoorRoLib
namespace Go.Proofs.YtggbdpamjjgakabDoor.Rp
open Go.RowKit Ba Dc Ds Rn Rs Tb Ri St Ro
set_option linter.unusedVariables false

/-- What SplitN hands back of a text, 25 parts at most. -/
def pr (s : ByteArray) : List ByteArray := Lib.splitB ⟨#[32]⟩ 0 (min 25 (s.size + 1) - 1) s
theorem pr_data (s : ByteArray) : (pr s).map (·.data.toList) = Lib.splitK [32] 0 (min 25 (s.size + 1) - 1) s.data.toList := Lib.splitB_data _ _ _ _
theorem pr_len (s : ByteArray) : (pr s).length = min (min 25 (s.size + 1) - 1 + 1) (spl 32 s.data.toList).length := by
  rw [← (Rh.split_k 32 _ s.data.toList).1, ← pr_data, List.length_map]
theorem pr_le (s : ByteArray) : (pr s).length ≤ 25 := by rw [pr_len]; omega
theorem pr_all (s : ByteArray) (h : (pr s).length ≤ 24) : (pr s).length = (spl 32 s.data.toList).length ∧ (pr s).map (·.data.toList) = spl 32 s.data.toList := by
  have h1 := pr_len s
  have h2 := spl_len 32 s.data.toList
  have h3 : s.data.toList.length = s.size := by simp
  have h4 : (pr s).length = (spl 32 s.data.toList).length := by omega
  refine ⟨h4, ?_⟩
  rw [pr_data, (Rh.split_k 32 _ s.data.toList).2 (by omega)]
theorem pr_more (s : ByteArray) (h : ¬ (pr s).length ≤ 24) : ¬ (spl 32 s.data.toList).length ≤ 24 := by
  have h1 := pr_len s
  omega
def q (s : ByteArray) (j : Nat) : ByteArray := (pr s).getD j ByteArray.empty
theorem q_some (s : ByteArray) {j : Nat} (h : j < (pr s).length) : (pr s)[j]? = some (q s j) := by
  unfold q; rw [List.getD_eq_getElem?_getD, List.getElem?_eq_getElem h]; rfl
theorem split_len (c : UInt8) (k : Nat) (L : List UInt8) : ∀ p ∈ Lib.splitK [c] 0 k L, p.length ≤ L.length := by
  induction k generalizing L with
  | zero => intro p hp; unfold Lib.splitK at hp; simp at hp; rw [hp]; simp
  | succ k ih =>
    intro p hp
    rw [Lib.splitK] at hp
    split at hp
    · simp at hp; rw [hp]; simp
    · simp only [List.mem_cons] at hp
      rcases hp with rfl | hp
      · simp [List.length_take] <;> omega
      · have := ih _ p hp
        simp only [List.length_drop] at this
        omega
theorem q_len (s : ByteArray) (j : Nat) : (q s j).size ≤ s.size := by
  unfold q
  rw [List.getD_eq_getElem?_getD]
  cases h : (pr s)[j]? with
  | none => simp
  | some p =>
    have hm : p.data.toList ∈ (pr s).map (·.data.toList) := List.mem_map.2 ⟨p, List.mem_of_getElem? h, rfl⟩
    rw [pr_data] at hm
    have := split_len 32 _ _ _ hm
    simpa using this
def f (s : ByteArray) (k : Nat) : Int := Rw.cfF (q s (k / 2)).data.toList (k % 2)
theorem f_0 (s : ByteArray) (k : Nat) : f s (k * 2) = Rw.cfF (q s k).data.toList 0 := by unfold f; rw [show k * 2 / 2 = k by omega, show k * 2 % 2 = 0 by omega]
theorem f_1 (s : ByteArray) (k : Nat) : f s (k * 2 + 1) = Rw.cfF (q s k).data.toList 1 := by unfold f; rw [show (k * 2 + 1) / 2 = k by omega, show (k * 2 + 1) % 2 = 1 by omega]
theorem q_P (s : ByteArray) (h : (pr s).length ≤ 24) (j : Nat) : (q s j).data.toList = P s.data.toList j := by
  unfold P q
  rw [← (pr_all s h).2, List.getD_eq_getElem?_getD, List.getD_eq_getElem?_getD, List.getElem?_map]
  cases (pr s)[j]? <;> rfl
theorem f_F (s : ByteArray) (h : (pr s).length ≤ 24) : f s = F s.data.toList := funext fun k => by unfold f F; rw [q_P s h]
theorem splitn (s : ByteArray) (hs : s.size ≤ 1048576) (w : World) (hM : Rw.MaxAt w) :
    Calls Tryd.prog 37 #[.string s, .string ⟨#[32]⟩, .int .i64 25] w fun e w' => ∃ g cs cap, e = .returned (.slice (some ⟨g, 0, none⟩) (pr s).length cap) ∧ w.heap.size ≤ g ∧ w'.heap[g]? = some (.cells cs 9 (0, 0)) ∧ (∀ j, j < (pr s).length → cs[j]? = ((pr s)[j]?).map Value.string) ∧ Below w.heap.size w w' := by
  obtain ⟨m, hm⟩ := hM
  refine (Tryd.strings_SplitN s ⟨#[32]⟩ 25 m w (by omega) hm (by decide) (by omega) (by omega)).mono ?_
  rintro e w' ⟨rfl, rfl⟩
  refine ⟨w.heap.size, _, _, rfl, Nat.le_refl _, blk_new _ _, fun j hj => ?_, below_box _ _⟩
  show (Lib.cellsOf (pr s) _)[j]? = _
  unfold Lib.cellsOf
  rw [List.getElem?_toArray, List.getElem?_append_left (by simpa using hj), List.getElem?_map]
def AllQ (s : ByteArray) : Prop := ∀ j, j < (pr s).length → Rw.rsB (q s j).data.toList = true
/-- What the two walks share: the program's parts decide as the text's. -/
theorem no_q {s : ByteArray} {j : Nat} (hj : j < (pr s).length) (h : Rw.rsB (q s j).data.toList = false) : B s.data.toList = false ∧ K s.data.toList = 0 := by
  by_cases h24 : (pr s).length ≤ 24
  · exact no_part (by rw [← (pr_all s h24).1]; exact hj) (by rw [← q_P s h24]; exact h)
  · exact no_out (Ge.tv_no fun o => pr_more s h24 o.2.1.2)
theorem no_o {s : ByteArray} (h : Ol.outB (pr s).length (f s) = false) : B s.data.toList = false ∧ K s.data.toList = 0 := by
  by_cases h24 : (pr s).length ≤ 24
  · exact no_out (by rw [← (pr_all s h24).1, ← f_F s h24]; exact h)
  · exact no_out (Ge.tv_no fun o => pr_more s h24 o.2.1.2)
theorem yes_q {s : ByteArray} (h : AllQ s) (ho : Ol.outB (pr s).length (f s) = true) : B s.data.toList = true ∧ K s.data.toList = (pr s).length ∧ F s.data.toList = f s := by
  have h24 : (pr s).length ≤ 24 := (Ge.tv_iff.1 ho).2.1.2
  obtain ⟨e1, e2⟩ := yes_all (L := s.data.toList) (fun j hj => by rw [← q_P s h24]; exact h j (by rw [(pr_all s h24).1]; exact hj)) (by rw [← (pr_all s h24).1, ← f_F s h24]; exact ho)
  exact ⟨e1, by rw [e2, (pr_all s h24).1], (f_F s h24).symm⟩

set_option maxRecDepth 100000 in
set_option maxHeartbeats 4000000 in
theorem impl_ro (s : ByteArray) (hs : s.size ≤ 1048576) (w : World) (hV : Vars w) (hM : Rw.MaxAt w) : Calls Tryd.prog 11 #[.string s] w (Post s.data.toList w) := by
  obtain ⟨i0, hi0, hz0, hz1, hz2⟩ := info_parts Ot.info_sp
  have hle := pr_le s
  have HMK : Hid (∀ w : World, (Instr.makeSlice 22 (.int .i64 0) (.int .i64 ((pr s).length : Int))).run Tryd.prog w = .ok (.slice (some ⟨w.heap.size, 0, none⟩) 0 (pr s).length) (w.alloc (.cells (Go.madeCells (Value.agg #[.int .i64 0, .int .i64 0]).cells ((pr s).length * 2)) 61))) := Lib.hid fun w => by
    have := run_make w _ _ i0 _ Tryd.underlying22 hi0 hz0 .i64 .i64 0 (pr s).length (by omega) (by omega) (by rw [hz2]; omega) (by omega)
    rw [hz1] at this
    simpa using this
  have HI := Lib.hid (And.intro hi0 (And.intro hz0 (And.intro hz1 hz2)))
  clear hi0 hz0 hz1 hz2
  have SN := Lib.hid (splitn s hs w hM)
  have PG := Lib.hid fun j hj => q_some s (j := j) hj
  have SL := Lib.hid fun (k : Nat) (w' : World) hM h0 h0g hk => Rw.slashed_any (q s k) (Nat.le_trans (q_len s k) hs) w'.heap.size 64 w (w'.alloc (.cells #[.int .i64 0, .int .i64 0] 64)) hV hM h0 h0g hk
  have HM : Hid (∀ w', Below w.heap.size w w' → Rw.MaxAt w') := Lib.hid fun w' hb => hM.below hb
  have NQ := Lib.hid fun j hj h => no_q (s := s) (j := j) hj h
  have NO := Lib.hid fun h => no_o (s := s) h
  have YA : Hid ((∀ j, j < (pr s).length → Rw.rsB (q s j).data.toList = true) → _ → _) := Lib.hid fun h ho => yes_q (s := s) h ho
  have VO := Lib.hid fun n A c hn w hA => Om.iok A n c (f s) hn w hA
  have HU : Hid (∀ k, Ge.upto (f s) ((k + 1) * 2) = Ge.upto (f s) (k * 2) ++ [.int .i64 (Rw.cfF (q s k).data.toList 0), .int .i64 (Rw.cfF (q s k).data.toList 1)]) := Lib.hid fun k => by rw [Ot.upto_two, f_0, f_1]
  have HU0 : Hid (Ge.upto (f s) (0 * 2) = []) := Lib.hid rfl
  have HOW := Lib.hid fun n w' B v h => Ot.own_of_row (n := n) (f := f s) (w' := w') (B := B) (v := v) h
  clear hs hV hM
  unfold Post
  generalize s.data.toList = L at NQ NO YA ⊢
  generalize f s = f at NO YA VO HU HU0 HOW
  generalize F L = F at YA ⊢
  generalize B L = b at NQ NO YA ⊢
  generalize K L = N at NQ NO YA ⊢
  generalize q s = q at PG SL NQ YA HU
  generalize pr s = ps at *
  generalize Ge.upto f = UP at HU HU0 HOW
  go_enter Tryd.func11, Tryd.ntmps11
  go_wp2_with fail
  refine SN.out.mono ?_
  rintro e w2 ⟨gp, cs, cap, rfl, hgp, kp, hcs, b2⟩
  have HB2 := Lib.hid b2
  have hz2 := b2.size
  have hgl := lt_of_heap kp
  have CP : Hid (∀ k, k < ps.length → w2.cell? ⟨gp, k, none⟩ = some (.string (q k))) := Lib.hid fun k hk => (cell_of_row _ _ k _ _ _ kp).trans (by rw [hcs k hk, PG.out k hk]; rfl)
  clear SN PG hcs kp b2
  generalize ps.length = n at *
  have hmk := HMK.out w2
  go_wp2_with fail
  clear hmk HMK
  have O0 : Hid ((w2.alloc (.cells (Go.madeCells (Value.agg #[.int .i64 0, .int .i64 0]).cells (n * 2)) 61)).ownsRow w2.heap.size 61 2 (.slice (some ⟨w2.heap.size, 0, none⟩) 0 n) 0 (UP (0 * 2))) := Lib.hid (by
    rw [HU0.out]
    exact ⟨rfl, .inr ⟨_, n, _, rfl, Nat.le_refl _, heap_alloc_new _ _, by omega, by unfold maxLen; omega, size_madeCells _ _, rfl⟩⟩)
  have B0 := Lib.hid (below_box w2 (.cells (Go.madeCells (Value.agg #[.int .i64 0, .int .i64 0]).cells (n * 2)) 61))
  go_loopw [5, 7, 8, 16] (fun o _ _ i wr => ∃ (k : Nat) (u : Value), k ≤ n ∧ u = o ∧ i = .int .i64 (k : Int) ∧ Hid (Below w2.heap.size w2 wr) ∧ Hid (wr.ownsRow w2.heap.size 61 2 u k (UP (k * 2))) ∧ Hid (∀ j, j < k → Rw.rsB (q j).data.toList = true)) (fun _ _ _ i _ => n - (intOf i).toNat)
  case atStart => exact ⟨0, _, Nat.zero_le _, rfl, rfl, B0, O0, Lib.hid fun j hj => by omega⟩
  case round =>
    obtain ⟨k, v, hk, rfl, rfl, HB, HO, HD⟩ := hrel
    have hzr := HB.out.size
    have HBB := Lib.hid (below_then HB2.out HB.out)
    have f0 : (0 : Int) ≤ (k : Int) := Int.natCast_nonneg _
    by_cases hlt : k < n
    · have ck := (HB.out.cell (p := ⟨gp, k, none⟩) hgl).trans (CP.out k hlt)
      have hk4 : (k : Int) < (n : Int) := by omega
      have BA := below_then HBB.out (below_box wr (.cells #[.int .i64 0, .int .i64 0] 64))
      have S1 := Lib.hid (SL.out k wr (HM.out _ BA) BA (by have := HBB.out.size; omega) (blk_new _ _))
      have NK := Lib.hid fun h => NQ.out k hlt h
      have HUk := Lib.hid (HU.out k)
      have HDk : Hid (Rw.rsB (q k).data.toList = true → ∀ j, j < k + 1 → Rw.rsB (q j).data.toList = true) := Lib.hid fun h j hj => by
        by_cases e : j = k
        · rw [e]; exact h
        · exact HD.out j (by omega)
      generalize Rw.rsB (q k).data.toList = rs at NK S1 HDk
      generalize Rw.cfF (q k).data.toList = F at S1 HUk
      generalize q k = pk at ck S1
      have HBA := Lib.hid BA
      have HCA := Lib.hid (HB.out.alloc hzr (.cells #[.int .i64 0, .int .i64 0] 64))
      have HOA := Lib.hid HO.out
      clear SL HM NQ HU HD YA NO VO HOW CP BA HBB
      go_wp2_with fail
      refine S1.out.mono ?_
      rintro e w3 ⟨j, hj, rfl, hjq, km, b3⟩
      have HB3 := Lib.hid (HBA.out.trans (b3.mono (by omega)))
      have HC3 := Lib.hid (HCA.out.trans (b3.mono hzr))
      have HO3 := Lib.hid (St.row_below HO.out ((below_box wr _).trans b3))
      have hz3 := HC3.out.size
      clear S1 HBA HCA HOA HO b3 ck
      cases rs
      · have Z := Lib.hid (NK.out rfl)
        clear NK HDk HUk km hjq
        go_wp2_with fail
        exact bodyPost_ret (v := .tuple #[.slice none 0 0, .bool false]) (by simp [results, Tryd.results11, go_sem]) rfl ⟨none, 0, (by rw [Z.out.1, Z.out.2]), Lib.hid (fun h => absurd h (by rw [Z.out.2]; omega)), HB3.out⟩
      · obtain rfl := hjq rfl
        have HDD := Lib.hid (HDk.out rfl)
        rw [Rw.ms_full] at km
        have y0 : w3.cell? ⟨wr.heap.size, 0, none⟩ = some (.int .i64 (F 0)) := cell_of_row _ _ 0 _ _ _ km
        have y1 : w3.cell? ⟨wr.heap.size, 1, none⟩ = some (.int .i64 (F 1)) := cell_of_row _ _ 1 _ _ _ km
        generalize F 0 = x0 at y0 HUk
        generalize F 1 = x1 at y1 HUk
        clear NK HDk km hjq hj
        go_wp2_with (at_builtin; refine wpList_append_own _ rfl _ _ 22 rfl w2.heap.size 61 i0 _ 2 16 Tryd.underlying22 HI.out.1 HI.out.2.1 HI.out.2.2.1 HI.out.2.2.2 rfl (by decide) _ _ _ rfl (HO3.out.alloc _) ⟨w3.heap.size, 0, none⟩ 1 1 [.int .i64 x0, .int .i64 x1] rfl rfl ?c1 ?c2 ?c3 ?c4 ?c5 ?_)
        case c1 => exact Ot.cells_new2 _ _ _ _
        case c2 => simp [Value.oneCell']
        case c3 => unfold maxLen; omega
        case c4 => omega
        case c5 => first | omega | (simp <;> omega)
        intro v' w6 hown2 hgrow _
        have HQ := Lib.hid ((HC3.out.alloc hz3 _).grown hgrow (by simp; omega) fun g hg => (HO3.out.lt g hg).1)
        have HO2 : Hid (w6.ownsRow w2.heap.size 61 2 v' (k + 1) (UP ((k + 1) * 2))) := Lib.hid (by rw [HUk.out]; exact hown2)
        clear hown2 hgrow
        go_wp2_with fail
        go_roundw
        case rel => exact ⟨k + 1, _, by omega, rfl, by go_num, HQ, HO2, HDD⟩
        case measure => simp [intOf]; omega
    · obtain rfl : k = n := by omega
      have hkn : ¬ (k : Int) < (k : Int) := by omega
      obtain ⟨A, cap3, rfl, HOw⟩ := HOW.out _ _ _ _ HO.out
      have VK := Lib.hid (VO.out k A cap3 (by omega) wr HOw.nums)
      have YAk := Lib.hid fun ho => YA.out HD.out ho
      have HOW2 := Lib.hid (own_more HOw (show w.heap.size ≤ w2.heap.size from hz2))
      clear SL HM NQ HU HD YA VO HOW CP HOw HO
      generalize Ol.outB k f = o at NO YAk VK
      go_wp2_with fail
      refine VK.out.mono ?_
      rintro e w3 ⟨rfl, b3⟩
      have HB3 := Lib.hid (below_then HBB.out b3)
      have HO3 := Lib.hid (HOW2.out.below b3)
      clear b3 HOW2
      cases o
      · have Z := Lib.hid (NO.out rfl)
        go_wp2_with fail
        exact bodyPost_ret (v := .tuple #[.slice none 0 0, .bool false]) (by simp [results, Tryd.results11, go_sem]) rfl ⟨none, 0, (by rw [Z.out.1, Z.out.2]), Lib.hid (fun h => absurd h (by rw [Z.out.2]; omega)), HB3.out⟩
      · have Z := Lib.hid (YAk.out rfl)
        go_wp2_with fail
        exact bodyPost_ret (v := .tuple #[.slice A k cap3, .bool true]) (by simp [results, Tryd.results11, go_sem]) rfl ⟨A, cap3, (by rw [Z.out.1, Z.out.2.1]), Lib.hid (by rw [Z.out.2.1, Z.out.2.2]; exact HO3.out), HB3.out⟩
end Go.Proofs.YtggbdpamjjgakabDoor.Rp
