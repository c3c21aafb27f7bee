/- ReadPiece: plain, and the spec's walk. -/
import Derived.Test.YtnojnikophpnoaaDoorRcLib
import Derived.Test.YtnojnikophpnoaaDoorVpcLib
namespace Go.Proofs.YtnojnikophpnoaaDoor.Pr
open Go.RowKit Ba Dc Ds Rn Rs Tb Ri St Rc
set_option linter.unusedVariables false

def F (L : List UInt8) (j : Nat) : Int := bF L (j + 1)
def N (L : List UInt8) : Nat := (spl 32 L).length - 1
def nm (L : List UInt8) : ByteArray := ⟨(bP L 0).toArray⟩
def All (L : List UInt8) : Prop := ∀ j, j < N L → rdB (bP L (j + 1)) = true
noncomputable def B (L : List UInt8) : Bool := Ge.tv (All L) && Ge.tv (Pv.PcP (nm L) (N L) (F L))
noncomputable def NM (L : List UInt8) : ByteArray := if B L then nm L else ⟨#[]⟩
noncomputable def M (L : List UInt8) : Nat := if B L then N L else 0
theorem no_of {L : List UInt8} (h : B L = false) : B L = false ∧ NM L = ⟨#[]⟩ ∧ M L = 0 := ⟨h, by unfold NM; rw [h]; rfl, by unfold M; rw [h]; rfl⟩
theorem no_part {L : List UInt8} {j : Nat} (hj : j < N L) (h : rdB (bP L (j + 1)) = false) : B L = false ∧ NM L = ⟨#[]⟩ ∧ M L = 0 := no_of (by
  unfold B
  rw [Ge.tv_no fun a => by rw [a j hj] at h; cases h]; rfl)
theorem no_pc {L : List UInt8} (h : Ge.tv (Pv.PcP (nm L) (N L) (F L)) = false) : B L = false ∧ NM L = ⟨#[]⟩ ∧ M L = 0 := no_of (by unfold B; rw [h, Bool.and_false])
theorem yes_all {L : List UInt8} (h : All L) (ho : Ge.tv (Pv.PcP (nm L) (N L) (F L)) = true) : B L = true ∧ NM L = nm L ∧ M L = N L := by
  have hb : B L = true := by unfold B; rw [Ge.tv_yes h, ho]; rfl
  exact ⟨hb, by unfold NM; rw [hb]; rfl, by unfold M; rw [hb]; rfl⟩
theorem P_get {L : List UInt8} {j : Nat} (h : j < (spl 32 L).length) : (strs (spl 32 L))[j]? = some (.string ⟨(bP L j).toArray⟩) := by
  unfold strs bP
  rw [List.getElem?_map, List.getElem?_eq_getElem h]
  simp [List.getD_eq_getElem?_getD, List.getElem?_eq_getElem h]
theorem N_le (L : List UInt8) : N L ≤ L.length := by
  have := spl_len 32 L
  unfold N; omega
theorem nm_le (L : List UInt8) : (nm L).size ≤ L.length := bP_len L 0
/-- The piece of a text, and whether it is one. -/
def Post (L : List UInt8) (w : World) (e : Ending) (w' : World) : Prop :=
  ∃ A c, e = .returned (.tuple #[.agg #[.string (NM L), .slice A (M L) c], .bool (B L)]) ∧ Hid (Is.Own w' w.heap.size A (M L) (F L)) ∧ Below w.heap.size w w'
theorem own_of_row {n : Nat} {f : Nat → Int} {w' : World} {B : Nat} {v : Value} (h : w'.ownsRow B 2 1 v n (Ge.upto f n)) : ∃ A cap, v = .slice A n cap ∧ Is.Own w' B A n f := by
  rcases h.2 with ⟨hv, h0⟩ | ⟨g, cap, cur, hv, hB, hg, hl, _, _, _⟩
  · exact ⟨none, 0, by rw [hv, h0], fun hp => by omega⟩
  · exact ⟨some ⟨g, 0, none⟩, cap, hv, fun hp => ⟨g, 0, rfl, hB, lt_of_heap hg, fun i hi => by
      subst hv
      rw [Nat.zero_add]
      exact (h.cellAt i (by omega)).trans (by simp [Ge.upto, hi]), blk_free hg⟩⟩
theorem own_more {w : World} {B B' n : Nat} {A : Option Addr} {f : Nat → Int} (h : Is.Own w B A n f) (hB : B' ≤ B) : Is.Own w B' A n f := fun hn => by
  obtain ⟨b, off, e, h1, h2⟩ := h hn
  exact ⟨b, off, e, Nat.le_trans hB h1, h2⟩
theorem upto_snoc (f : Nat → Int) (k : Nat) : Ge.upto f (k + 1) = Ge.upto f k ++ [.int .i64 (f k)] := by simp [Ge.upto, List.range_succ]
theorem heap_set {w : World} {g : Nat} {t : TypeId} {cs : Array Value} (h : w.heap[g]? = some (.cells cs t (0, 0))) (i : Nat) (u : Value) : (w.setCell ⟨g, i, none⟩ u).heap[g]? = some (.cells (cs.setIfInBounds i u) t (0, 0)) := by
  simp [World.setCell, Array.getElem?_modify, h]
theorem row_set {w : World} {base : Nat} {e : TypeId} {size n : Nat} {v : Value} {xs : List Value} (h : w.ownsRow base e size v n xs) {b : Nat} (hb : b < base) (i : Nat) (u : Value) : (w.setCell ⟨b, i, none⟩ u).ownsRow base e size v n xs := by
  rcases h with ⟨h1, h2 | ⟨g, cap, cur, hv, hB, hg, h3⟩⟩
  · exact ⟨h1, .inl h2⟩
  · exact ⟨h1, .inr ⟨g, cap, cur, hv, hB, heap_other hg (by omega) i u, h3⟩⟩
theorem own_set2 {w : World} {B n : Nat} {A : Option Addr} {f : Nat → Int} (h : Is.Own w B A n f) {g : Nat} (hg : g < B) (i : Nat) (u : Value) : Is.Own (w.setCell ⟨g, i, none⟩ u) B A n f := fun hn => by
  obtain ⟨b, off, e, h1, h2, h3, h4⟩ := h hn
  exact ⟨b, off, e, h1, by simpa using h2, fun j hj => by
    rw [World.cell?_setCell_other _ _ _ _ (show (⟨g, i, none⟩ : Addr) ≠ ⟨b, off + j, none⟩ from fun q => by have := (Addr.mk.inj q).1; omega), h3 j hj], fun j => (World.frozen?_setCell _ _ _ _).trans (h4 j)⟩
theorem own_slice {w : World} {base : Nat} {e : TypeId} {size n : Nat} {v : Value} {xs : List Value} (h : w.ownsRow base e size v n xs) : ∃ a l c, v = .slice a l c := by
  rcases h.2 with ⟨rfl, _⟩ | ⟨g, cap, cur, rfl, _⟩
  · exact ⟨_, _, _, rfl⟩
  · exact ⟨_, _, _, rfl⟩

set_option maxRecDepth 100000 in
set_option maxHeartbeats 4000000 in
theorem spec_rp (s : ByteArray) (hs : s.size ≤ 1048576) (w : World) : Calls Tryd.prog 10 #[.string s] w (Post s.data.toList w) := by
  obtain ⟨i0, hi0, hz0, hz1, hz2⟩ := info_parts Rf.info_int
  have HI := Lib.hid (And.intro hi0 (And.intro hz0 (And.intro hz1 hz2)))
  clear hi0 hz0 hz1 hz2
  have SP0 := fun w => split_any s 32 hs w
  rw [show (((32 : UInt8).toNat : Nat) : Int) = 32 by decide] at SP0
  have SP := Lib.hid SP0
  clear SP0
  have hsl : s.data.toList.length ≤ 1048576 := by simpa using hs
  clear hs
  generalize s.data.toList = L at SP hsl ⊢
  have R : Hid (∀ (k : Nat) w, Calls Tryd.prog 22 #[.string ⟨(bP L (k + 1)).toArray⟩] w fun e w' => e = .returned (.tuple #[.int .i64 (F L k), .bool (rdB (bP L (k + 1)))]) ∧ Below w.heap.size w w') := Lib.hid fun (k : Nat) w => num_any ⟨(bP L (k + 1)).toArray⟩ (by show (bP L (k + 1)).length ≤ _; have := bP_len L (k + 1); unfold maxLen; omega) w
  have NP := Lib.hid fun j hj h => no_part (L := L) (j := j) hj h
  have NO := Lib.hid fun h => no_pc (L := L) h
  have YA : Hid ((∀ j, j < N L → rdB (bP L (j + 1)) = true) → _ → _) := Lib.hid fun h ho => yes_all (L := L) h ho
  have GP := Lib.hid fun j h => P_get (L := L) (j := j) h
  have VO := Lib.hid fun n A c hn b w h0 h1 hA => Pv.one (nm L) A n c (F L) (by have := nm_le L; unfold maxLen; omega) hn b 0 w h0 h1 hA
  have HU : Hid (∀ k, Ge.upto (F L) (k + 1) = Ge.upto (F L) k ++ [.int .i64 (F L k)]) := Lib.hid fun k => upto_snoc _ _
  have HU0 : Hid (Ge.upto (F L) 0 = []) := Lib.hid rfl
  have HOW := Lib.hid fun n w' B v h => own_of_row (n := n) (f := F L) (w' := w') (B := B) (v := v) h
  have hn0 := N_le L
  have hn1 : (spl 32 L).length = N L + 1 := by
    have := List.length_pos_iff.2 (spl_ne 32 L)
    unfold N; omega
  have HP0 : Hid (bP L 0 = (nm L).data.toList ∧ (⟨(bP L 0).toArray⟩ : ByteArray) = nm L) := Lib.hid ⟨by simp [nm], rfl⟩
  rw [hn1] at SP GP
  unfold Post
  generalize F L = f at R NO YA VO HU HU0 HOW ⊢
  generalize B L = b at NP NO YA ⊢
  generalize NM L = z at NP NO YA ⊢
  generalize M L = m at NP NO YA ⊢
  generalize N L = n at *
  generalize strs (spl 32 L) = xs at SP GP
  generalize nm L = u at *
  generalize bP L = p at *
  clear hn1
  generalize Ge.upto f = UP at HU HU0 HOW
  have B0 := Lib.hid (below_box w (.cells #[.string ⟨#[]⟩, .slice none 0 0] 27))
  have K0 := Lib.hid (heap_alloc_new w (.cells #[.string ⟨#[]⟩, .slice none 0 0] 27))
  go_enter Tryd.func10, Tryd.ntmps10
  go_upto_region 1 with fail
  generalize hw0 : w.alloc _ = w0 at B0 K0 ⊢
  clear hw0
  go_wp2_with fail
  refine (SP.out _).mono ?_
  rintro e w2 ⟨v, rfl, HR, b2⟩
  have HB2 := Lib.hid (below_then B0.out b2)
  have hz2 : w.heap.size ≤ w2.heap.size := HB2.out.size
  have hz0 : w0.heap.size ≤ w2.heap.size := b2.size
  have KR2 := Lib.hid (Ba.blk_keep b2 K0.out)
  clear b2 B0 K0
  obtain ⟨g, cap, rfl, _, hgl⟩ := HR.out.form (by omega)
  have CP : Hid (∀ k, k < n + 1 → w2.cell? ⟨g, k, none⟩ = some (.string ⟨(p k).toArray⟩)) := Lib.hid fun k hk => (HR.out.cellAt k (by omega)).trans (GP.out k hk)
  have ck0 := (CP.out 0 (by omega)).trans (by rw [HP0.out.2])
  clear HR GP SP
  have HB3 := Lib.hid (below_box w2 (.cells #[.string u, .slice none 0 0] 27))
  have K3 := Lib.hid (heap_alloc_new w2 (.cells #[.string u, .slice none 0 0] 27))
  go_upto_region 3 with fail
  generalize hw3 : w2.alloc _ = w3 at HB3 K3 ⊢
  have s3 : w3.heap.size = w2.heap.size + 1 := by rw [← hw3]; simp
  clear hw3 ck0
  go_wp2_with fail
  go_loopw [6, 7, 8] (fun i _ _ wr => ∃ (k : Nat) (v : Value), k ≤ n ∧ i = .int .i64 ((k : Int) + 1) ∧ Hid (Below w2.heap.size w2 wr) ∧ Hid (wr.heap[w2.heap.size]? = some (.cells #[.string u, v] 27 (0, 0))) ∧ Hid (wr.ownsRow (w2.heap.size + 1) 2 1 v k (UP k)) ∧ w2.heap.size + 1 ≤ wr.heap.size ∧ Hid (∀ j, j < k → rdB (p (j + 1)) = true)) (fun i _ _ _ => n + 1 - (intOf i).toNat)
  case atStart => exact ⟨0, _, Nat.zero_le _, rfl, HB3, K3, Lib.hid (by rw [HU0.out]; exact ⟨rfl, .inl ⟨rfl, rfl⟩⟩), by omega, Lib.hid fun j hj => by omega⟩
  case round =>
    obtain ⟨k, v, hk, rfl, HB, KB, HO, hzr, HD⟩ := hrel
    have HBB := Lib.hid (below_then HB2.out HB.out)
    have f0 : (0 : Int) ≤ (k : Int) := Int.natCast_nonneg _
    have f1 : (0 : Int) ≤ (k : Int) + 1 := by omega
    have ft : ((k : Int) + 1).toNat = k + 1 := by omega
    by_cases hlt : k < n
    · have ck := (HB.out.cell (p := ⟨g, k + 1, none⟩) hgl).trans (CP.out (k + 1) (by omega))
      have hk4 : (k : Int) + 1 < (n : Int) + 1 := by omega
      have RK := Lib.hid fun w => R.out k w
      have NK := Lib.hid fun h => NP.out k hlt h
      have HUk := Lib.hid (HU.out k)
      have HDk : Hid (rdB (p (k + 1)) = true → ∀ j, j < k + 1 → rdB (p (j + 1)) = true) := Lib.hid fun h j hj => by
        by_cases e : j = k
        · rw [e]; exact h
        · exact HD.out j (by omega)
      have HL : Hid (k + 1 ≤ 1048576) := Lib.hid (by omega)
      generalize rdB (p (k + 1)) = rs at RK NK HDk
      generalize f k = x0 at RK HUk
      generalize p (k + 1) = pk at ck RK
      clear R NP HU HD YA NO VO HOW CP HP0
      go_wp2_with fail
      refine (RK.out _).mono ?_
      rintro e w4 ⟨rfl, b4⟩
      have HB4 := Lib.hid (below_then HBB.out b4)
      have HC4 := Lib.hid (below_then HB.out b4)
      have KB4 := Lib.hid (Ba.blk_keep b4 KB.out)
      have HO4 := Lib.hid (St.row_below HO.out b4)
      have KR4 := Lib.hid ((HC4.out.block _ (lt_of_heap KR2.out)).trans KR2.out)
      have hz4 := b4.size
      clear b4 ck HO KB HB HBB RK
      cases rs
      · have Z := Lib.hid (NK.out rfl)
        clear NK HDk HUk
        obtain ⟨r0, r1⟩ := Pt.blk2 KR4.out
        have hfr := blk_free KR4.out
        have hlr := lt_of_heap KR4.out
        go_wp2_with fail
        exact bodyPost_ret (v := .tuple #[.agg #[.string ⟨#[]⟩, .slice none 0 0], .bool false]) (by simp [results, Tryd.results10, go_sem, r0, r1]) rfl ⟨none, 0, (by rw [Z.out.1, Z.out.2.1, Z.out.2.2]), Lib.hid (fun h => absurd h (by rw [Z.out.2.2]; omega)), (HB4.out.setCell (by simp) _).setCell (by simp) _⟩
      · have HDD := Lib.hid (HDk.out rfl)
        obtain ⟨a, l, c, rfl⟩ := own_slice HO4.out
        obtain ⟨x1, x2⟩ := Pt.blk2 KB4.out
        have hL := HL.out
        have hne : Value.ownBlock (.slice a l c) ≠ some w2.heap.size := fun e => by have := (HO4.out.lt _ e).1; omega
        have HNE := Lib.hid (Ne.symm hne)
        have KA := Lib.hid (Ba.blk_keep (below_box w4 (.cells #[.int .i64 x0] 2)) KB4.out)
        clear NK HDk hne
        go_wp2_with (at_builtin; refine wpList_append_own _ rfl _ _ 22 rfl (w2.heap.size + 1) 2 i0 _ 1 8 Tryd.underlying22 HI.out.1 HI.out.2.1 HI.out.2.2.1 HI.out.2.2.2 rfl (by decide) _ _ _ rfl (HO4.out.alloc _) ⟨w4.heap.size, 0, none⟩ 1 1 [.int .i64 x0] rfl rfl ?c1 ?c2 ?c3 ?c4 ?c5 ?_)
        case c1 =>
          intro j q h
          cases j with
          | zero => exact cell_one w4 (.int .i64 x0) 2 0 q h
          | succ j => simp at h
        case c2 => simp [Value.oneCell']
        case c3 => unfold maxLen; omega
        case c4 => omega
        case c5 => simp; omega
        intro v' w6 hown2 hgrow _
        have HQ := Lib.hid ((HC4.out.alloc (by omega) _).grown hgrow (by simp; omega) fun g hg => by have := (HO4.out.lt g hg).1; omega)
        have K6 := Lib.hid ((hgrow.block _ (lt_of_heap KA.out) HNE.out).trans KA.out)
        have HO2 : Hid (w6.ownsRow (w2.heap.size + 1) 2 1 v' (k + 1) (UP (k + 1))) := Lib.hid (by rw [HUk.out]; exact hown2)
        obtain ⟨a2, l2, c2, rfl⟩ := own_slice hown2
        obtain ⟨y1, y2⟩ := Pt.blk2 K6.out
        have hfr := blk_free K6.out
        have hlr := lt_of_heap K6.out
        clear hown2 hgrow x1 x2 KA KB4 HO4
        go_wp2_with fail
        have HQ7 := Lib.hid (HQ.out.setCell (p := ⟨w2.heap.size, 1, none⟩) (by simp) (.slice a2 l2 c2))
        have K7 : Hid ((w6.setCell ⟨w2.heap.size, 1, none⟩ (.slice a2 l2 c2)).heap[w2.heap.size]? = some (.cells #[.string u, .slice a2 l2 c2] 27 (0, 0))) := Lib.hid (Pr.heap_set K6.out 1 _)
        have HO7 := Lib.hid (row_set HO2.out (b := w2.heap.size) (by omega) 1 (.slice a2 l2 c2))
        go_roundw
        case rel => exact ⟨k + 1, _, by omega, by go_num, HQ7, K7, HO7, by have := HQ.out.size; simp; omega, HDD⟩
        case measure => simp [intOf]; omega
    · have hkn : k = n := by omega
      subst hkn
      have hkn : ¬ (k : Int) + 1 < (k : Int) + 1 := by omega
      obtain ⟨A, cap3, rfl, HOw⟩ := HOW.out _ _ _ _ HO.out
      obtain ⟨x1, x2⟩ := Pt.blk2 KB.out
      have VK := Lib.hid (VO.out k A cap3 (by omega) w2.heap.size wr x1 x2 HOw.nums)
      have YAk := Lib.hid fun ho => YA.out HD.out ho
      have HOW2 := Lib.hid (own_more HOw (show w.heap.size + 1 ≤ w2.heap.size + 1 by omega))
      have KR := Lib.hid ((HB.out.block _ (lt_of_heap KR2.out)).trans KR2.out)
      have HKB := Lib.hid KB.out
      clear R NP HU HD YA VO HOW CP HOw HO KB x1 x2
      generalize Ge.tv (Pv.PcP u k f) = o at NO YAk VK
      go_wp2_with fail
      refine VK.out.mono ?_
      rintro e w3' ⟨rfl, b3⟩
      have HB3' := Lib.hid (below_then HBB.out b3)
      have HO3 := Lib.hid (HOW2.out.below b3)
      have KR3 := Lib.hid (Ba.blk_keep b3 KR.out)
      have KB3 := Lib.hid (Ba.blk_keep b3 HKB.out)
      obtain ⟨r0, r1⟩ := Pt.blk2 KR3.out
      obtain ⟨x1, x2⟩ := Pt.blk2 KB3.out
      have hfr := blk_free KR3.out
      have hlr := lt_of_heap KR3.out
      clear b3 HOW2
      cases o
      · have Z := Lib.hid (NO.out rfl)
        go_wp2_with fail
        exact bodyPost_ret (v := .tuple #[.agg #[.string ⟨#[]⟩, .slice none 0 0], .bool false]) (by simp [results, Tryd.results10, go_sem, r0, r1]) rfl ⟨none, 0, (by rw [Z.out.1, Z.out.2.1, Z.out.2.2]), Lib.hid (fun h => absurd h (by rw [Z.out.2.2]; omega)), (HB3'.out.setCell (by simp) _).setCell (by simp) _⟩
      · have Z := Lib.hid (YAk.out rfl)
        go_wp2_with fail
        exact bodyPost_ret (v := .tuple #[.agg #[.string u, .slice A k cap3], .bool true]) (by simp [results, Tryd.results10, go_sem, r0, r1]) rfl ⟨A, cap3, (by rw [Z.out.1, Z.out.2.1, Z.out.2.2]), Lib.hid (by rw [Z.out.2.2]; exact own_more (own_set2 (own_set2 HO3.out (by omega) 0 _) (by omega) 1 _) (by omega)), (HB3'.out.setCell (by simp) _).setCell (by simp) _⟩
end Go.Proofs.YtnojnikophpnoaaDoor.Pr
