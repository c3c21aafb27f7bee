/- ReadPiece: the program's walk. -/
import Derived.Test.YtnojnikophpnoaaDoorPrLib
import Derived.RegionTactic
namespace Go.Proofs.YtnojnikophpnoaaDoor.Prj
open Go.RowKit Ba Dc Ds Rn Rs Tb Ri St Rc Pr
set_option linter.unusedVariables false

/-- A text cut at its first c, against its parts. -/
theorem cut_spl (c : UInt8) (L : List UInt8) : (spl c L = [L] ∧ Lib.cut L [c] = (L, [], false)) ∨ ∃ a r, spl c L = a :: spl c r ∧ Lib.cut L [c] = (a, r, true) ∧ r.length < L.length := by
  by_cases hi : Lib.index L [c] = -1
  · refine .inl ⟨spl_none c L fun x hx e => ?_, ?_⟩
    · subst e
      obtain ⟨j, hj⟩ := List.mem_iff_getElem?.1 hx
      rw [Lib.index_one] at hi
      exact Lib.indexByte_none hi j hj
    · unfold Lib.cut
      rw [if_neg (by omega)]
  · have hge := Lib.index_ge L [c]
    obtain ⟨o, ho⟩ : ∃ o : Nat, Lib.index L [c] = o := ⟨(Lib.index L [c]).toNat, by omega⟩
    have hb := ho
    rw [Lib.index_one] at hb
    obtain ⟨hc, hf⟩ := Lib.indexByte_some hb
    refine .inr ⟨L.take o, L.drop (o + 1), ?_, ?_, ?_⟩
    · conv => lhs; rw [Rh.cut_at hc]
      exact spl_hit c _ _ fun x hx e => by
        subst e
        obtain ⟨j, hj⟩ := List.mem_iff_getElem?.1 hx
        rw [List.getElem?_take] at hj
        split at hj
        · rename_i hlt; exact hf j hlt hj
        · cases hj
    · unfold Lib.cut
      rw [if_pos (by omega), ho]
      rfl
    · obtain ⟨h1, _⟩ := List.getElem?_eq_some_iff.1 hc
      simp; omega
/-- How often c occurs, against the parts. -/
theorem count_spl (c : UInt8) (L : List UInt8) : (spl c L).length = L.count c + 1 := by
  induction L with
  | nil => simp [spl]
  | cons x r ih =>
    unfold spl
    by_cases e : x = c
    · subst e
      rw [if_pos rfl, List.count_cons_self]
      simp [ih]
    · rw [if_neg e, List.count_cons_of_ne e]
      split
      · rename_i p ps h
        rw [h] at ih
        simpa using ih
      · rename_i h
        exact absurd h (spl_ne c r)
theorem pc_congr {s : ByteArray} {m : Nat} {d e : Nat → Int} (h : ∀ j, j < m → d j = e j) : Pv.PcP s m d ↔ Pv.PcP s m e :=
  ⟨fun ⟨a, b, c⟩ => ⟨a, b, fun j hj => by rw [← h j hj]; exact c j hj⟩, fun ⟨a, b, c⟩ => ⟨a, b, fun j hj => by rw [h j hj]; exact c j hj⟩⟩
/-- What is behind the first blank. -/
def G (L : List UInt8) : List UInt8 := (Lib.cut L [32]).2.1
theorem G_le (L : List UInt8) : (G L).length ≤ L.length := by
  unfold G
  rcases cut_spl 32 L with ⟨_, h⟩ | ⟨a, r, _, h, hr⟩
  · rw [h]; simp
  · rw [h]; show r.length ≤ _; omega
theorem cut_nm (L : List UInt8) : (⟨(Lib.cut L [32]).1.toArray⟩ : ByteArray) = nm L := by
  unfold nm bP
  rcases cut_spl 32 L with ⟨h1, h⟩ | ⟨a, r, h1, h, hr⟩
  · rw [h, h1]; rfl
  · rw [h, h1]; rfl
def Q (L : List UInt8) : Nat := min (N L) 8
theorem count_N (L : List UInt8) : L.count 32 = N L := by have := count_spl 32 L; unfold N; omega
theorem g_of {L : List UInt8} (h : 0 < N L) : (spl 32 (G L)).length = N L ∧ ∀ j, bP (G L) j = bP L (j + 1) := by
  unfold G
  rcases cut_spl 32 L with ⟨h1, h2⟩ | ⟨a, r, h1, h2, hr⟩
  · unfold N at h; rw [h1] at h; simp at h
  · rw [h2]
    refine ⟨by unfold N; rw [h1]; simp, fun j => ?_⟩
    unfold bP
    rw [h1]
    simp
theorem g_no {L : List UInt8} (h : ¬ 0 < N L) : rsB (Q L) (G L) = false := by
  have h0 : Q L = 0 := by unfold Q; omega
  rw [h0]
  exact rs_len (by
    have := List.length_pos_iff.2 (spl_ne 32 (G L))
    omega)
theorem pc_n {s : ByteArray} {m : Nat} {d : Nat → Int} (h : Pv.PcP s m d) : 3 ≤ m ∧ m ≤ 8 := h.2.1
/-- A text is a piece's where the numbers behind the first blank, eight at most, are a piece's. -/
theorem B_eq (L : List UInt8) : B L = (rsB (Q L) (G L) && Ge.tv (Pv.PcP (nm L) (Q L) (bF (G L)))) ∧ (rsB (Q L) (G L) = true → Q L = N L ∧ ∀ j, F L j = bF (G L) j) := by
  by_cases h0 : 0 < N L
  · obtain ⟨g1, g2⟩ := g_of h0
    have gF : ∀ j, F L j = bF (G L) j := fun j => by unfold F bF; rw [g2]
    have gF' : F L = bF (G L) := funext gF
    by_cases h8 : N L ≤ 8
    · have hq : Q L = N L := by unfold Q; omega
      refine ⟨?_, fun _ => ⟨hq, gF⟩⟩
      unfold B
      rw [hq, ← gF']
      congr 1
      by_cases ha : All L
      · rw [Ge.tv_yes ha, rs_all g1 fun j hj => by rw [g2]; exact ha j hj]
      · rw [Ge.tv_no ha]
        obtain ⟨j, hj⟩ := Classical.not_forall.1 ha
        obtain ⟨hj1, hj2⟩ := Classical.not_imp.1 hj
        exact (rs_rd hj1 (by rw [g2]; simpa using hj2)).symm
    · have hr : rsB (Q L) (G L) = false := rs_len (by unfold Q; omega)
      rw [hr]
      refine ⟨?_, fun h => by cases h⟩
      unfold B
      rw [Ge.tv_no (P := Pv.PcP (nm L) (N L) (F L)) fun p => h8 (pc_n p).2, Bool.and_false, Bool.false_and]
  · rw [g_no h0]
    refine ⟨?_, fun h => by cases h⟩
    unfold B
    rw [Ge.tv_no (P := Pv.PcP (nm L) (N L) (F L)) fun p => h0 (by have := (pc_n p).1; omega), Bool.and_false, Bool.false_and]
theorem no_rs {L : List UInt8} (h : rsB (Q L) (G L) = false) : B L = false ∧ NM L = ⟨#[]⟩ ∧ M L = 0 := no_of (by rw [(B_eq L).1, h, Bool.false_and])
theorem no_o {L : List UInt8} (h : Ge.tv (Pv.PcP (nm L) (Q L) (bF (G L))) = false) : B L = false ∧ NM L = ⟨#[]⟩ ∧ M L = 0 := no_of (by rw [(B_eq L).1, h, Bool.and_false])
theorem yes_o {L : List UInt8} (h : rsB (Q L) (G L) = true) (ho : Ge.tv (Pv.PcP (nm L) (Q L) (bF (G L))) = true) : B L = true ∧ NM L = nm L ∧ M L = Q L ∧ F L = bF (G L) := by
  have hb : B L = true := by rw [(B_eq L).1, h, ho]; rfl
  exact ⟨hb, by unfold NM; rw [hb]; rfl, by unfold M; rw [hb, ((B_eq L).2 h).1]; rfl, funext ((B_eq L).2 h).2⟩

set_option maxRecDepth 100000 in
set_option maxHeartbeats 1000000 in
/-- strings.Count at one byte. -/
theorem count_any (s : ByteArray) (w : World) : Calls Tryd.prog 24 #[.string s, .string ⟨#[32]⟩] w fun e w' => e = .returned (.int .i64 (s.data.toList.count 32 : Nat)) ∧ w' = w := by
  go_enter Tryd.func24, Tryd.ntmps24
  go_wp2
  rw [run_callFunc_extern Tryd.func40 (by kernel_rfl) (by kernel_rfl) (by kernel_rfl) (e := Extern.BytealgCount.count) (by kernel_rfl), Lib.run_countString]
  simp only [Result.andThen]
  rw [Oper.upon_value]
  go_wp2
  go_ret
  exact ⟨rfl, rfl⟩
theorem below_drewN (w : World) : ∀ n, Below w.heap.size w (w.drewN n)
  | 0 => Below.refl _ _
  | n + 1 => (below_drewN w n).drew
theorem cut_any (s : ByteArray) (hs : s.size ≤ 1048576) (w : World) (hM : MaxAt w) : Calls Tryd.prog 23 #[.string s, .string ⟨#[32]⟩] w fun e w' => ∃ f, e = .returned (.tuple #[.string (nm s.data.toList), .string ⟨(G s.data.toList).toArray⟩, .bool f]) ∧ Below w.heap.size w w' := by
  obtain ⟨m, hm⟩ := hM
  refine (Tryd.strings_Cut s ⟨#[32]⟩ m w (by omega) hm).mono ?_
  rintro e w' ⟨rfl, n, rfl⟩
  refine ⟨(Lib.cut s.data.toList [32]).2.2, ?_, below_drewN w n⟩
  rw [← cut_nm]
  rfl
/-- As Post; the row lies at its block's start. -/
def PostI (L : List UInt8) (w : World) (e : Ending) (w' : World) : Prop :=
  ∃ A c, e = .returned (.tuple #[.agg #[.string (NM L), .slice A (M L) c], .bool (B L)]) ∧ Hid (0 < M L → ∃ g, A = some ⟨g, 0, none⟩) ∧ Hid (Is.Own w' w.heap.size A (M L) (F L)) ∧ Below w.heap.size w w'

set_option maxRecDepth 100000 in
set_option maxHeartbeats 4000000 in
theorem impl_rp (s : ByteArray) (hs : s.size ≤ 1048576) (w : World) (hV : Vars w) (hM : MaxAt w) : Calls Tryd.prog 11 #[.string s] w (PostI s.data.toList w) := by
  obtain ⟨i0, hi0, hz0, hz1, hz2⟩ := info_parts Rf.info_int
  have hq : Q s.data.toList ≤ 8 := by unfold Q; omega
  have HMK : Hid (∀ w : World, (Instr.makeSlice 22 (.int .i64 (Q s.data.toList : Int)) (.int .i64 (Q s.data.toList : Int))).run Tryd.prog w = .ok (.slice (some ⟨w.heap.size, 0, none⟩) (Q s.data.toList) (Q s.data.toList)) (w.alloc (.cells (ms (Q s.data.toList) (fun _ => 0) 0) 2))) := Lib.hid fun w => by
    have := run_make w _ _ i0 _ Tryd.underlying22 hi0 hz0 .i64 .i64 (Q s.data.toList) (Q s.data.toList) (by omega) (by omega) (by rw [hz2]; omega) (by omega)
    rw [hz1] at this
    rw [ms_zero]
    have h1 : (Value.int .i64 0).cells = #[.int .i64 0] := rfl
    rw [h1] at this
    simpa using this
  clear hi0 hz0 hz1 hz2
  have hsl : s.data.toList.length ≤ 1048576 := by simpa using hs
  have CC := Lib.hid fun w hM => cut_any s hs w hM
  have CN := Lib.hid fun w => count_any s w
  rw [count_N] at CN
  have HQ8 : Hid (Q s.data.toList = min (N s.data.toList) 8) := Lib.hid rfl
  have hN := N_le s.data.toList
  have SL := Lib.hid fun (w' : World) g hM h0 h0g hk => slashed_any (Q s.data.toList) hq ⟨(G s.data.toList).toArray⟩ (by show (G s.data.toList).length ≤ _; have := G_le s.data.toList; omega) g 2 w w' hV hM h0 h0g hk
  have HM : Hid (∀ w', Below w.heap.size w w' → MaxAt w') := Lib.hid fun w' hb => hM.below hb
  have NQ := Lib.hid fun h => no_rs (L := s.data.toList) h
  have NO := Lib.hid fun h => no_o (L := s.data.toList) h
  have YA := Lib.hid fun h ho => yes_o (L := s.data.toList) h ho
  have VO := Lib.hid fun n A c hn w hA => Vpc.valid_piece (nm s.data.toList) A n c (bF (G s.data.toList)) (by have := nm_le s.data.toList; unfold maxLen; omega) hn w hA
  clear hs hV hM
  unfold PostI
  generalize s.data.toList = L at *
  generalize bF (G L) = f at SL NO YA VO
  generalize F L = F at YA ⊢
  generalize B L = b at NQ NO YA ⊢
  generalize NM L = z at NQ NO YA ⊢
  generalize M L = m at NQ NO YA ⊢
  generalize rsB (Q L) (G L) = rs at NQ YA SL
  generalize nm L = u at *
  generalize (⟨(G L).toArray⟩ : ByteArray) = gt at *
  generalize Q L = q at *
  generalize N L = n at *
  have B0 := Lib.hid (below_box w (.cells #[.string ⟨#[]⟩, .slice none 0 0] 27))
  have K0 := Lib.hid (heap_alloc_new w (.cells #[.string ⟨#[]⟩, .slice none 0 0] 27))
  go_enter Tryd.func11, Tryd.ntmps11
  go_upto_region 1 with fail
  generalize hw0 : w.alloc _ = w0 at B0 K0 ⊢
  clear hw0
  go_wp2_with fail
  refine (CC.out _ (HM.out _ B0.out)).mono ?_
  rintro e w1 ⟨fo, rfl, b1⟩
  have B1 := Lib.hid (below_then B0.out b1)
  have K1 := Lib.hid (Ba.blk_keep b1 K0.out)
  clear b1 B0 K0 CC
  go_wp2_with fail
  refine (CN.out _).mono ?_
  rintro e w2 ⟨rfl, rfl⟩
  have hmk := HMK.out w2
  have hqm : min (n : Int) 8 = (q : Int) := by have := HQ8.out; omega
  go_upto_region 3 with fail
  have B3 := below_box w2 (.cells (ms q (fun _ => 0) 0) 2)
  have k3 := heap_alloc_new w2 (.cells (ms q (fun _ => 0) 0) 2)
  generalize hw3 : w2.alloc (.cells (ms q (fun _ => 0) 0) 2) = w3 at B3 k3 hmk
  have s3 : w3.heap.size = w2.heap.size + 1 := by rw [← hw3]; simp
  clear hw3
  have B4 := below_box w3 (.cells #[.string u, .slice (some ⟨w2.heap.size, 0, none⟩) q q] 27)
  have k4 := heap_alloc_new w3 (.cells #[.string u, .slice (some ⟨w2.heap.size, 0, none⟩) q q] 27)
  go_upto_region 4 with fail
  clear hmk HMK
  generalize hw4 : w3.alloc (.cells #[.string u, .slice (some ⟨w2.heap.size, 0, none⟩) q q] 27) = w4 at B4 k4 ⊢
  have s4 : w4.heap.size = w3.heap.size + 1 := by rw [← hw4]; simp
  rw [s3] at k4
  have HB4 := Lib.hid (below_then (below_then B1.out B3) B4)
  have KA4 := Lib.hid (Ba.blk_keep B4 k3)
  have KX4 := Lib.hid k4
  have KR4 := Lib.hid (Ba.blk_keep B4 (Ba.blk_keep B3 K1.out))
  have hr0 := lt_of_heap K1.out
  clear hw4 k3 k4 B3 B4 K1
  have hzz := B1.out.size
  have S4 := Lib.hid (SL.out w4 w2.heap.size (HM.out _ HB4.out) HB4.out hzz KA4.out)
  obtain ⟨x1, x2⟩ := Pt.blk2 KX4.out
  have hr2 : w.heap.size ≠ w2.heap.size := by omega
  clear SL HM KA4
  cases rs
  · have Z := Lib.hid (NQ.out rfl)
    clear NQ YA NO VO
    go_wp2_with fail
    refine S4.out.mono ?_
    rintro e w5 ⟨k, hk, rfl, _, KA5, b5⟩
    have HB5 := Lib.hid (HB4.out.trans (b5.below hzz HB4.out.size))
    have KR5 := Lib.hid (Bw.blk_but KR4.out b5 hr2)
    obtain ⟨r0, r1⟩ := Pt.blk2 KR5.out
    have hfr := blk_free KR5.out
    have hlr := lt_of_heap KR5.out
    clear KA5 b5 S4 x1 x2
    go_wp2_with fail
    exact bodyPost_ret (v := .tuple #[.agg #[.string ⟨#[]⟩, .slice none 0 0], .bool false]) (by simp [results, Tryd.results11, go_sem, r0, r1]) rfl ⟨none, 0, (by rw [Z.out.1, Z.out.2.1, Z.out.2.2]), Lib.hid (fun h => absurd h (by rw [Z.out.2.2]; omega)), Lib.hid (fun h => absurd h (by rw [Z.out.2.2]; omega)), (HB5.out.setCell (by simp) _).setCell (by simp) _⟩
  · have YAk := Lib.hid fun ho => YA.out rfl ho
    clear NQ YA
    go_wp2_with fail
    refine S4.out.mono ?_
    rintro e w5 ⟨k, hk, rfl, hkq, KA5, b5⟩
    obtain rfl := hkq trivial
    have HB5 := Lib.hid (HB4.out.trans (b5.below hzz HB4.out.size))
    have KR5 := Lib.hid (Bw.blk_but KR4.out b5 hr2)
    have KX5 := Lib.hid (Bw.blk_but KX4.out b5 (by omega))
    have HO5 : Hid (Is.Own w5 w2.heap.size (some ⟨w2.heap.size, 0, none⟩) k f) := Lib.hid fun hn => ⟨w2.heap.size, 0, rfl, Nat.le_refl _, lt_of_heap KA5, fun i hi => by
      rw [Nat.zero_add]
      exact (cell_of_row _ _ i _ _ _ KA5).trans (ms_full k f hi), blk_free KA5⟩
    clear x1 x2 S4 KX4 KR4
    obtain ⟨x1, x2⟩ := Pt.blk2 KX5.out
    have VK := Lib.hid (VO.out k (some ⟨w2.heap.size, 0, none⟩) k (by omega) w5 HO5.out.nums)
    clear KA5 b5 VO
    generalize Ge.tv (Pv.PcP u k f) = o at NO YAk VK
    go_wp2_with fail
    refine VK.out.mono ?_
    rintro e w6 ⟨rfl, b6⟩
    have HB6 := Lib.hid (below_then HB5.out b6)
    have HO6 := Lib.hid (HO5.out.below b6)
    have KR6 := Lib.hid (Ba.blk_keep b6 KR5.out)
    have KX6 := Lib.hid (Ba.blk_keep b6 KX5.out)
    clear x1 x2 b6 HB5 HO5 KR5 KX5 VK
    obtain ⟨r0, r1⟩ := Pt.blk2 KR6.out
    obtain ⟨x1, x2⟩ := Pt.blk2 KX6.out
    have hfr := blk_free KR6.out
    have hlr := lt_of_heap KR6.out
    have hlt : w.heap.size + 1 ≤ w2.heap.size := by omega
    cases o
    · have Z := Lib.hid (NO.out rfl)
      go_wp2_with fail
      exact bodyPost_ret (v := .tuple #[.agg #[.string ⟨#[]⟩, .slice none 0 0], .bool false]) (by simp [results, Tryd.results11, go_sem, r0, r1]) rfl ⟨none, 0, (by rw [Z.out.1, Z.out.2.1, Z.out.2.2]), Lib.hid (fun h => absurd h (by rw [Z.out.2.2]; omega)), Lib.hid (fun h => absurd h (by rw [Z.out.2.2]; omega)), (HB6.out.setCell (by simp) _).setCell (by simp) _⟩
    · have Z := Lib.hid (YAk.out rfl)
      go_wp2_with fail
      exact bodyPost_ret (v := .tuple #[.agg #[.string u, .slice (some ⟨w2.heap.size, 0, none⟩) k k], .bool true]) (by simp [results, Tryd.results11, go_sem, r0, r1]) rfl ⟨some ⟨w2.heap.size, 0, none⟩, k, (by rw [Z.out.1, Z.out.2.1, Z.out.2.2.1]), Lib.hid (fun _ => ⟨_, rfl⟩), Lib.hid (by rw [Z.out.2.2.1, Z.out.2.2.2]; exact own_more (own_set2 (own_set2 HO6.out (by omega) 0 _) (by omega) 1 _) (by omega)), (HB6.out.setCell (by simp) _).setCell (by simp) _⟩
end Go.Proofs.YtnojnikophpnoaaDoor.Prj
