/- PieceText: spec and program. -/
import Derived.Test.YtnojnikophpnoaaDoorVpcLib
import Derived.Test.YtnojnikophpnoaaDoorStxLib
import Derived.Lib.ItoaLen
import Derived.Deep.RegionHeld3
import Derived.RegionTactic
namespace Go.Proofs.YtnojnikophpnoaaDoor.Px
set_option linter.unusedVariables false
open Go.RowKit Ft Is Ge Qb Pt Pv
open Go.Lib (itoa)

theorem sz_piece2 (s : ByteArray) (A : Option Addr) (m c : Nat) (l : Int) (h0 : 0 ≤ l) (h1 : l ≤ 1048576) (hs : s.size ≤ maxLen) (hm : m ≤ maxLen) (w : World) :
    Calls Tryd.prog 5 #[pcV s A m c, .int .i64 l] w fun e w' => ∃ r : Int, e = .returned (.int .i64 r) ∧ -1 ≤ r ∧ r ≤ 1048576 ∧ (0 ≤ r → s.size ≤ 1048576 ∧ m ≤ 1048576) ∧ Below w.heap.size w w' :=
  (sz_piece s A m c l h0 h1 hs hm w).mono fun _ _ ⟨r, h1, h2, h3, h4, h5⟩ => ⟨r, h1, h2, h3, fun h => by have := h4 h; omega, h5⟩
theorem app_eq (a b : List UInt8) : (⟨a.toArray⟩ ++ ⟨b.toArray⟩ : ByteArray) = ⟨(a ++ b).toArray⟩ := by
  apply ByteArray.ext
  simp
/-- The text of the name and of the first j edges. -/
def pt (s : ByteArray) (d : Nat → Int) : Nat → List UInt8
  | 0 => s.data.toList
  | j + 1 => pt s d j ++ ([32] ++ itoa (d j))
theorem pt_tx (s : ByteArray) (d : Nat → Int) : ∀ j, pt s d (j + 1) = s.data.toList ++ [32] ++ Stx.tx [32] d (j + 1)
  | 0 => by simp [pt, Stx.tx]
  | j + 1 => by
    show pt s d (j + 1) ++ ([32] ++ itoa (d (j + 1))) = s.data.toList ++ [32] ++ ((if j + 1 = 0 then [] else Stx.tx [32] d (j + 1) ++ [32]) ++ itoa (d (j + 1)))
    rw [pt_tx s d j, if_neg (by omega)]
    simp
theorem pt_len (s : ByteArray) (d : Nat → Int) {m : Nat} (h : ∀ j, j < m → 1 ≤ d j ∧ d j ≤ 10000) : ∀ j, j ≤ m → (pt s d j).length ≤ s.size + 22 * j
  | 0, _ => by simp [pt]
  | j + 1, hj => by
    have ih := pt_len s d h j (by omega)
    obtain ⟨h0, h1⟩ := h j (by omega)
    have := Lib.itoa_length_le (d j) (by omega) (by omega)
    unfold pt
    simp; omega
open Classical in
noncomputable def pT (s : ByteArray) (m : Nat) (d : Nat → Int) : ByteArray := if PcP s m d then ⟨(pt s d m).toArray⟩ else ⟨#[]⟩
theorem pc_in {s : ByteArray} {m : Nat} {d : Nat → Int} (h : PcP s m d) : s.size ≤ 12 ∧ 3 ≤ m ∧ m ≤ 8 ∧ ∀ j, j < m → 1 ≤ d j ∧ d j ≤ 10000 :=
  ⟨h.1.2.1, h.2.1.1, h.2.1.2, fun j hj => by have := h.2.2 j hj; unfold inB at this; simpa using this⟩
theorem keep_of {w2 w' : World} {b i : Nat} {v : Value} (hb : Below w2.heap.size w2 w') (hg : b < w2.heap.size) (h : w2.cell? ⟨b, i, none⟩ = some v) : w'.cell? ⟨b, i, none⟩ = some v := (hb.cell (p := ⟨b, i, none⟩) hg).trans h
set_option maxRecDepth 100000 in
set_option maxHeartbeats 4000000 in
theorem stext (s : ByteArray) (A : Option Addr) (m c : Nat) (d : Nat → Int) (hP : PcP s m d) (b o : Nat) (w : World) (h0 : w.cell? ⟨b, o, none⟩ = some (.string s)) (h1 : w.cell? ⟨b, o + 1, none⟩ = some (.slice A m c)) (hA : Nums w w.heap.size A m d) :
    Calls Tryd.prog 16 #[.pointer (some ⟨b, o, none⟩)] w fun e w' => e = .returned (.string ⟨(pt s d m).toArray⟩) ∧ Below w.heap.size w w' := by
  obtain ⟨p1, p2, p3, p4⟩ := pc_in hP
  have HA := Lib.hid hA
  have ND : Hid (∀ k, k < m → (∀ w : World, Calls Tryd.prog 30 #[.int .i64 (d k)] w fun e w' => e = .returned (.string ⟨(itoa (d k)).toArray⟩) ∧ Below w.heap.size w w') ∧ (⟨(itoa (d k)).toArray⟩ : ByteArray).size ≤ 21) := Lib.hid fun k hk => by
    obtain ⟨h0, h1⟩ := p4 k hk
    exact ⟨fun w => Ds.dec_any _ (by omega) (by omega) w, Lib.itoa_length_le _ (by omega) (by omega)⟩
  have PL : Hid (∀ k, k ≤ m → (⟨(pt s d k).toArray⟩ : ByteArray).size ≤ 300) := Lib.hid fun k hk => by
    have := pt_len s d p4 k hk
    show (pt s d k).length ≤ 300
    omega
  have PS : Hid (∀ k, (⟨(pt s d (k + 1)).toArray⟩ : ByteArray) = ⟨(pt s d k).toArray⟩ ++ (⟨#[32]⟩ ++ ⟨(itoa (d k)).toArray⟩)) := Lib.hid fun k => by
    rw [show (⟨#[32]⟩ : ByteArray) = ⟨([32] : List UInt8).toArray⟩ from rfl]
    simp only [app_eq]
    rfl
  obtain ⟨Q, hQ⟩ : ∃ Q : Nat → ByteArray, ∀ k, (⟨(pt s d k).toArray⟩ : ByteArray) = Q k := ⟨_, fun k => rfl⟩
  have Q0 : Q 0 = s := by rw [← hQ]; apply ByteArray.ext; simp [pt]
  simp only [hQ] at PL PS ⊢
  obtain ⟨D, hD⟩ : ∃ D : Nat → ByteArray, ∀ k, (⟨(itoa (d k)).toArray⟩ : ByteArray) = D k := ⟨_, fun k => rfl⟩
  simp only [hD] at ND PS
  have lb := World.block_lt_of_cell? w _ h0
  clear hQ hD hA hP p4
  go_enter Tryd.func16, Tryd.ntmps16
  go_wp2_with fail
  go_loopw [3, 4] (fun q i wr => ∃ k : Nat, k ≤ m ∧ q = .string (Q k) ∧ i = .int .i64 (k : Int) ∧ Hid (Below w.heap.size w wr)) (fun _ i _ => m - (intOf i).toNat)
  case atStart => exact ⟨0, Nat.zero_le _, by rw [Q0], rfl, Lib.hid (Below.refl _ _)⟩
  case round =>
    obtain ⟨k, hk, rfl, rfl, HB⟩ := hrel
    have f0 : (0 : Int) ≤ (k : Int) := Int.natCast_nonneg _
    have y1 : wr.cell? ⟨b, o + 1, none⟩ = some (.slice A m c) := (HB.out.cell (p := ⟨b, o + 1, none⟩) lb).trans h1
    by_cases hlt : k < m
    · obtain ⟨b1, o1, rfl, hb, hc⟩ := HA.out (by omega)
      have a0 : wr.cell? ⟨b1, o1 + k, none⟩ = some (.int .i64 (d k)) := (HB.out.cell (p := ⟨b1, o1 + k, none⟩) hb).trans (hc k hlt)
      obtain ⟨d0, z0⟩ := ND.out k hlt
      have D0 := Lib.hid d0
      have zo := PL.out k hk
      have g1 : (k : Int) < (m : Int) := by omega
      have HE := Lib.hid (PS.out k)
      have hk1 : k + 1 ≤ m := by omega
      generalize D k = s0 at D0 z0 HE
      generalize d k = px at a0 D0
      generalize Q k = q at zo HE
      have n0 : ¬ 9223372036854775807 < 1 + s0.size := by omega
      have n1 : ¬ 9223372036854775807 < q.size + (1 + s0.size) := by omega
      clear ND PL PS hc d0 hk
      go_wp2_with fail
      refine (D0.out _).mono ?_
      rintro e w1 ⟨rfl, b1⟩
      have HQ := Lib.hid (below_then HB.out b1)
      clear b1 a0 y1
      go_wp2_with fail
      go_roundw
      case rel => exact ⟨k + 1, hk1, by rw [HE.out], by go_num, HQ⟩
      case measure => simp [intOf]; omega
    · obtain rfl : k = m := by omega
      have g1 : ¬ (k : Int) < (k : Int) := by omega
      clear ND PL PS
      go_wp2_with fail
      go_ret
      exact ⟨rfl, HB.out⟩
theorem spec_px (s : ByteArray) (A : Option Addr) (m c : Nat) (d : Nat → Int) (hn : s.size ≤ 1048576 ∧ m ≤ 1048576) (w : World) (hA : Nums w w.heap.size A m d) :
    Calls Tryd.prog 6 #[pcV s A m c] w fun e w' => e = .returned (.string (pT s m d)) ∧ Below w.heap.size w w' := by
  have HB := Lib.hid (below_box w (.cells #[.string s, .slice A m c] 27))
  have KB := Lib.hid (heap_alloc_new w (.cells #[.string s, .slice A m c] 27))
  have HA := Lib.hid hA
  obtain ⟨x0, x1⟩ := blk2 KB.out
  have C := Lib.hid (one s A m c d (by unfold maxLen; omega) hn.2 w.heap.size 0 _ x0 x1 ((hA.below HB.out (Nat.le_refl _)).more HB.out.size))
  clear hA x0 x1
  unfold pcV
  by_cases hP : PcP s m d
  · have HE : Hid (pT s m d = ⟨(pt s d m).toArray⟩) := Lib.hid (by unfold pT; rw [if_pos hP])
    have T : Hid (∀ w', Below (w.alloc (.cells #[.string s, .slice A m c] 27)).heap.size (w.alloc (.cells #[.string s, .slice A m c] 27)) w' → Calls Tryd.prog 16 #[.pointer (some ⟨w.heap.size, 0, none⟩)] w' fun e w2 => e = .returned (.string ⟨(pt s d m).toArray⟩) ∧ Below w'.heap.size w' w2) := Lib.hid fun w' hb => by
      obtain ⟨x0, x1⟩ := blk2 (blk_keep hb KB.out)
      exact stext s A m c d hP w.heap.size 0 w' x0 x1 ((HA.out.below (below_then HB.out hb) (Nat.le_refl _)).more (below_then HB.out hb).size)
    rw [tv_yes hP] at C
    clear hP
    generalize (⟨(pt s d m).toArray⟩ : ByteArray) = R at HE T
    go_enter Tryd.func6, Tryd.ntmps6
    go_wp2_with fail
    refine C.out.mono ?_
    rintro e w1 ⟨rfl, b1⟩
    have T1 := Lib.hid (T.out w1 b1)
    have HQ := Lib.hid (below_then HB.out b1)
    clear b1 T C
    go_wp2_with fail
    refine T1.out.mono ?_
    rintro e w2 ⟨rfl, b2⟩
    have HQ2 := Lib.hid (below_then HQ.out b2)
    clear b2
    go_wp2_with fail
    go_ret
    exact ⟨Dc.ret_str HE.out.symm, HQ2.out⟩
  · have HE : Hid (pT s m d = ⟨#[]⟩) := Lib.hid (by unfold pT; rw [if_neg hP])
    rw [tv_no hP] at C
    clear hP
    go_enter Tryd.func6, Tryd.ntmps6
    go_wp2_with fail
    refine C.out.mono ?_
    rintro e w1 ⟨rfl, b1⟩
    have HQ := Lib.hid (below_then HB.out b1)
    clear b1 C
    go_wp2_with fail
    go_ret
    exact ⟨Dc.ret_str HE.out.symm, HQ.out⟩
set_option maxRecDepth 100000 in
set_option maxHeartbeats 2000000 in
theorem impl_px (s : ByteArray) (A : Option Addr) (m c : Nat) (d : Nat → Int) (hn : s.size ≤ 1048576 ∧ m ≤ 1048576) (w : World) (hT : Tb.Tab w) (hA : Nums w w.heap.size A m d) :
    Calls Tryd.prog 8 #[pcV s A m c] w fun e w' => e = .returned (.string (pT s m d)) ∧ Below w.heap.size w w' := by
  have HB := Lib.hid (below_box w (.cells #[.string s, .slice A m c] 27))
  have KB := Lib.hid (heap_alloc_new w (.cells #[.string s, .slice A m c] 27))
  have HA := Lib.hid hA
  have HT := Lib.hid hT
  have C := Lib.hid (Vpc.valid_piece s A m c d (by unfold maxLen; omega) hn.2 _ ((hA.below HB.out (Nat.le_refl _)).more HB.out.size))
  clear hA hT
  unfold pcV
  unfold pcV at C
  by_cases hP : PcP s m d
  · obtain ⟨p1, p2, p3, p4⟩ := pc_in hP
    have HE : Hid (pT s m d = s ++ ⟨#[32]⟩ ++ ⟨(Stx.tx [32] d m).toArray⟩) := Lib.hid (by
      unfold pT; rw [if_pos hP]
      obtain ⟨q, rfl⟩ : ∃ q, m = q + 1 := ⟨m - 1, by omega⟩
      rw [pt_tx]
      apply ByteArray.ext
      simp)
    obtain ⟨b, o, rfl, hb, hc⟩ := HA.out (by omega)
    have HC := Lib.hid hc
    have hl : (⟨(Stx.tx [32] d m).toArray⟩ : ByteArray).size ≤ 300 := by
      have := Stx.tx_len (sp := [32]) (f := d) (n := m) rfl (fun k hk => by have := p4 k hk; omega) m (Nat.le_refl _)
      show (Stx.tx [32] d m).length ≤ 300
      omega
    have T : Hid (∀ w', Below (w.alloc (.cells #[.string s, .slice (some ⟨b, o, none⟩) m c] 27)).heap.size (w.alloc (.cells #[.string s, .slice (some ⟨b, o, none⟩) m c] 27)) w' → Calls Tryd.prog 19 #[.string ⟨#[32]⟩, .slice (some ⟨b, o, none⟩) m c] w' fun e w2 => e = .returned (.string ⟨(Stx.tx [32] d m).toArray⟩) ∧ Below w'.heap.size w' w2) := Lib.hid fun w' hb' => by
      have h := Stx.slash_off [32] rfl b o m c d (by omega) (fun k hk => by have := p4 k hk; omega) w' (HT.out.below (below_then HB.out hb')) (fun k hk => by
        have := HC.out k hk
        exact ((below_then HB.out hb').cell (p := ⟨b, o + k, none⟩) hb).trans this)
      exact h
    have KK : Hid (∀ w', Below (w.alloc (.cells #[.string s, .slice (some ⟨b, o, none⟩) m c] 27)).heap.size (w.alloc (.cells #[.string s, .slice (some ⟨b, o, none⟩) m c] 27)) w' → w'.heap[w.heap.size]? = some (.cells #[.string s, .slice (some ⟨b, o, none⟩) m c] 27)) := Lib.hid fun w' hb => blk_keep hb KB.out
    rw [tv_yes hP] at C
    clear hP hc HA p4
    generalize (⟨(Stx.tx [32] d m).toArray⟩ : ByteArray) = R at HE T hl
    have n1 : ¬ 9223372036854775807 < s.size + 1 := by omega
    have n2 : ¬ 9223372036854775807 ≤ s.size := by omega
    have n3 : ¬ 9223372036854775807 < s.size + 1 + R.size := by omega
    go_enter Tryd.func8, Tryd.ntmps8
    go_wp2_with fail
    refine C.out.mono ?_
    rintro e w1 ⟨rfl, b1⟩
    have T1 := Lib.hid (fun z : Beyond w1 => T.out z.to (below_then b1 z.h))
    have HQ := Lib.hid (below_then HB.out b1)
    obtain ⟨x0, x1⟩ := blk2 (KK.out w1 b1)
    clear b1 T C KK
    have x0 := bey_cell x0
    have x1 := bey_cell x1
    go_upto_region 3 with fail
    refine wp_region_below (by kernel_rfl) (by kernel_rfl) ?_
    repeat (go_big_quiet_step (first | (go_at_call 19; with_reducible exact bey_of _ (T1.out _))))
    refine wpQuiet_nil ?_
    rintro _ ⟨pq, rfl⟩
    have HQ2 := Lib.hid (below_then HQ.out pq.h)
    generalize pq.to = wq at HQ2 ⊢
    clear x0 x1 T1
    go_wp2_with fail
    go_ret
    exact ⟨Dc.ret_str HE.out.symm, HQ2.out⟩
  · have HE : Hid (pT s m d = ⟨#[]⟩) := Lib.hid (by unfold pT; rw [if_neg hP])
    rw [tv_no hP] at C
    clear hP
    go_enter Tryd.func8, Tryd.ntmps8
    go_wp2_with fail
    refine C.out.mono ?_
    rintro e w1 ⟨rfl, b1⟩
    have HQ := Lib.hid (below_then HB.out b1)
    clear b1 C
    go_wp2_with fail
    go_ret
    exact ⟨Dc.ret_str HE.out.symm, HQ.out⟩
end Go.Proofs.YtnojnikophpnoaaDoor.Px
