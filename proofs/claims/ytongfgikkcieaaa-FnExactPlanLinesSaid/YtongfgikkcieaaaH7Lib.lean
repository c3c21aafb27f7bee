/- Hides: the spec's MirrorHide. -/
import Derived.Test.YtongfgikkcieaaaH3Lib
import Derived.Test.YtongfgikkcieaaaTxLib
import Derived.Test.YtongfgikkcieaaaDcLib
namespace Go.Proofs.Ytongfgikkcieaaa.H7
set_option linter.unusedVariables false
open Go.RowKit Ft Is Ge Qb Hd Ts Tx
open Go.Proofs.Ytongfgikkcieaaa.Nm (byt byt_of)
open Go.Proofs.Ytongfgikkcieaaa.Dc (BytesAt conv_bytes)

/-- A text the other way round. -/
def rvL (s : ByteArray) : List UInt8 := s.data.toList.reverse
def rvS (s : ByteArray) : ByteArray := ⟨(rvL s).toArray⟩
theorem rv_len (s : ByteArray) : (rvL s).length = s.size := by simp [rvL]
theorem rv_at {s : ByteArray} {j : Nat} (h : j < s.size) : (rvL s)[j]? = some (s[s.size - 1 - j]'(by omega)) := by
  unfold rvL
  rw [List.getElem?_reverse (by simpa using h)]
  rw [List.getElem?_eq_getElem (by simp; omega)]
  simp
  rfl
theorem rv_at2 {s : ByteArray} {j x : Nat} (hx : x < s.size) (e : x + j + 1 = s.size) : (rvL s)[j]? = some (s[x]'hx) := by
  obtain rfl : x = s.size - 1 - j := by omega
  exact rv_at (by omega)
/-- Bytes, as cells. -/
def byc (L : List UInt8) : List Value := L.map fun c => Value.int .u8 (c.toNat : Int)
theorem byc_take {L : List UInt8} {j : Nat} {c : UInt8} (h : L[j]? = some c) : byc (L.take (j + 1)) = byc (L.take j) ++ [.int .u8 (c.toNat : Int)] := by
  rw [List.take_add_one, h]
  simp [byc]
theorem bytes_of_row {w : World} {B g cap : Nat} {L : List UInt8} (h : w.ownsRow B 5 1 (.slice (some ⟨g, 0, none⟩) L.length cap) L.length (byc L)) : BytesAt w g L := fun j hj => by
  have := h.cellAt j (by omega)
  refine this.trans ?_
  simp [byc, hj]
theorem rowB_zero (w : World) : (w.alloc (.cells #[] 5)).ownsRow w.heap.size 5 1 (.slice (some ⟨w.heap.size, 0, none⟩) 0 0) 0 (byc []) :=
  ⟨rfl, .inr ⟨_, 0, _, rfl, Nat.le_refl _, heap_alloc_new _ _, by omega, by unfold maxLen; omega, rfl, rfl⟩⟩
theorem own_addr {w : World} {B : Nat} {e : TypeId} {n : Nat} {v : Value} {xs : List Value} (h : w.ownsRow B e 1 v n xs) (hn : 0 < n) : ∃ g cap, v = .slice (some ⟨g, 0, none⟩) n cap := by
  rcases h.2 with ⟨rfl, rfl⟩ | ⟨g, cap, cur, rfl, _⟩
  · exact absurd hn (by omega)
  · exact ⟨g, cap, rfl⟩
theorem info_u8 : (Try.prog.info? 5).map (fun i => (i.zero, i.size, i.bytes)) = some (some (.int .u8 0), 1, 1) := by kernel_rfl
noncomputable def mhN (n : Nat) (f : Nat → ByteArray) : Nat := if tv (HideP n f) = true then n else 0
noncomputable def mhC (n : Nat) (f : Nat → ByteArray) : Int := if tv (HideP n f) = true then 0 else 1
theorem mh_le {n : Nat} {f : Nat → ByteArray} (hn : n ≤ 1048576) : mhN n f ≤ 1048576 := by unfold mhN; split <;> omega
set_option maxRecDepth 100000 in
set_option maxHeartbeats 2000000 in
theorem spec_mh (A : Option Addr) (n c : Nat) (f : Nat → ByteArray) (hn : n ≤ 1048576) (hs : ∀ i, i < n → (f i).size ≤ 1048576) (w : World) (hA : Txts w w.heap.size A n f) :
    Calls Try.prog 47 #[.slice A n c] w (PairT (mhN n f) (fun i => rvS (f i)) (mhC n f) w) := by
  have HA := Lib.hid hA
  have C0 := Lib.hid (He.spec_ok A n c f hn hs w hA)
  have V0 : Hid (tv (HideP n f) = false → ∀ W, Below w.heap.size w W → PairT (mhN n f) (fun i => rvS (f i)) (mhC n f) w (.returned (.tuple #[.slice none 0 0, .int .i64 1])) W) := Lib.hid fun h W hb => by
    unfold mhN mhC; rw [h]; exact pairT_no hb _
  have V1 : Hid (tv (HideP n f) = true → ∀ w1 w' v, w'.ownsRow w1.heap.size 9 1 v n (uptoT (fun i => rvS (f i)) n) → Below w.heap.size w w1 → Below w1.heap.size w1 w' → PairT (mhN n f) (fun i => rvS (f i)) (mhC n f) w (.returned (.tuple #[v, .int .i64 0])) w') := Lib.hid fun h w1 w' v h1 h2 h3 => by
    unfold mhN mhC; rw [h]; exact pairT_of_row h1 h2 h3
  have HH : Hid (tv (HideP n f) = true → HideP n f) := Lib.hid fun h => tv_iff.1 h
  obtain ⟨i0, hi0, hz0, hz1, hz2⟩ := info_parts info_u8
  have HIn := Lib.hid (And.intro hi0 (And.intro hz0 (And.intro hz1 hz2)))
  obtain ⟨j0, hj0, hy0, hy1, hy2⟩ := info_parts info_str
  have HJn := Lib.hid (And.intro hj0 (And.intro hy0 (And.intro hy1 hy2)))
  have HU : Hid (∀ k, uptoT (fun i => rvS (f i)) (k + 1) = uptoT (fun i => rvS (f i)) k ++ [.string ⟨(rvL (f k)).toArray⟩]) := Lib.hid fun k => uptoT_snoc _ _
  have U0 := Lib.hid (fun w => rowT_zero w (fun i => rvS (f i)))
  clear hA hi0 hz0 hz1 hz2 hj0 hy0 hy1 hy2
  generalize PairT (mhN n f) (fun i => rvS (f i)) (mhC n f) w = Q at V0 V1 ⊢
  generalize uptoT (fun i => rvS (f i)) = UP at V1 HU U0
  generalize tv (HideP n f) = r0 at C0 V0 V1 HH
  go_enter Try.func47, Try.ntmps47
  go_wp2_with fail
  refine C0.out.mono ?_
  rintro e w1 ⟨rfl, b1⟩
  have HB1 := Lib.hid b1
  clear b1 C0
  cases r0
  · have HF := Lib.hid (V0.out rfl _ HB1.out)
    clear V0 V1
    go_wp2_with fail
    exact HF.out
  have hh := HH.out (by first | rfl | trivial)
  have VV := Lib.hid (V1.out (by first | rfl | trivial))
  have hn6 := hh.2
  have HR := Lib.hid (fun k (hk : k < n) => (hh.1 k hk).2.1)
  clear V0 V1 HH hh
  go_wp2_with fail
  have B0 := Lib.hid (below_box w1 (.cells #[] 9))
  have R0 := Lib.hid (U0.out w1)
  clear U0
  go_loopw [4, 5, 6, 7] (fun o y _ _ wr => ∃ (k : Nat) (v : Value), k ≤ n ∧ v = o ∧ y = .int .i64 (k : Int) ∧ Hid (Below w1.heap.size w1 wr) ∧ Hid (wr.ownsRow w1.heap.size 9 1 v k (UP k))) (fun _ y _ _ _ => n - (intOf y).toNat)
  case atStart => exact ⟨0, _, Nat.zero_le _, rfl, rfl, B0, R0⟩
  case round =>
    obtain ⟨k, v, hk, rfl, rfl, HW, HO⟩ := hrel
    rename World => wo
    have e0 : (0 : Int) ≤ (k : Int) := Int.natCast_nonneg _
    by_cases hlt : k < n
    · have e1 : (k : Int) < (n : Int) := by omega
      have HX : Hid (∀ wv, Below wo.heap.size wo wv → ∃ b off, A = some ⟨b, off, none⟩ ∧ wv.cell? ⟨b, off + k, none⟩ = some (.string (f k))) := Lib.hid fun wv hb => by
        obtain ⟨b, off, e, h1, h2⟩ := (HA.out.below (below_then (below_then HB1.out HW.out) hb) (Nat.le_refl _)) (by omega)
        exact ⟨b, off, e, h2 k hlt⟩
      have hsz := HR.out k hlt
      have HUk := Lib.hid (HU.out k)
      have hk1 : k + 1 ≤ n := by omega
      generalize f k = s at HX hsz HUk
      have RA := Lib.hid (fun j x hx e => @rv_at2 s j x hx e)
      have RL := Lib.hid (rv_len s)
      generalize rvL s = L at HUk RA RL
      obtain ⟨b, off, rfl, x0⟩ := HX.out wo (Below.refl _ _)
      have BB := Lib.hid (below_box wo (.cells #[] 5))
      have RB := Lib.hid (rowB_zero wo)
      have hsi : (s.size : Int) ≤ 6 := by omega
      have hsj : (1 : Int) ≤ (s.size : Int) := by omega
      have x0' : (wo.alloc (.cells #[] 5)).cell? ⟨b, off + k, none⟩ = some (.string s) := Lib.cell?_alloc_some _ x0
      clear hk x0
      go_wp2_with fail
      clear x0'
      go_loopw [6, 7] (fun ln x wv => ∃ (j : Nat) (u : Value), j ≤ s.size ∧ u = ln ∧ x = .int .i64 ((s.size : Int) - 1 - (j : Int)) ∧ Hid (Below wo.heap.size wo wv) ∧ Hid (wv.ownsRow wo.heap.size 5 1 u j (byc (L.take j)))) (fun _ x _ => ((intOf x) + 1).toNat)
      case atStart => exact ⟨0, _, Nat.zero_le _, rfl, by simp, BB, RB⟩
      case round =>
        obtain ⟨j, u, hj, rfl, rfl, HV, HL⟩ := hrel
        have f0 : (0 : Int) ≤ (j : Int) := Int.natCast_nonneg _
        obtain ⟨b, off, hbo, x0⟩ := HX.out wr HV.out
        obtain ⟨rfl, rfl⟩ : _ ∧ _ := by simpa using hbo
        have hz := HV.out.size
        by_cases hjl : j < s.size
        · obtain ⟨xx, hxx⟩ : ∃ xx : Nat, xx + j + 1 = s.size := ⟨s.size - 1 - j, by omega⟩
          have hxs : xx < s.size := by omega
          have hcast : (s.size : Int) - 1 - (j : Int) = (xx : Int) := by omega
          have HTK : Hid (byc (L.take (j + 1)) = byc (L.take j) ++ [.int .u8 ((s[xx]'hxs).toNat : Int)]) := Lib.hid (byc_take (RA.out j xx hxs hxx))
          have HNX : Hid ((xx : Int) - 1 = (s.size : Int) - 1 - ((j + 1 : Nat) : Int)) := Lib.hid (by omega)
          have HMS : Hid (((xx : Int) - 1 + 1).toNat < ((xx : Int) + 1).toNat) := Lib.hid (by omega)
          rw [hcast]
          have hj1 : j + 1 ≤ s.size := by omega
          have hj6 : j ≤ 6 := by omega
          have g0 : (0 : Int) ≤ (xx : Int) := Int.natCast_nonneg _
          have g1 : (xx : Int) < (s.size : Int) := by omega
          clear hcast hxx
          generalize hb1 : byc (L.take (j + 1)) = bt1 at HTK
          generalize byc (L.take j) = bt at HTK HL
          go_wp2_with (at_builtin; refine wpList_append_own _ rfl _ _ 65 rfl wo.heap.size 5 i0 _ 1 1 Try.underlying65 HIn.out.1 HIn.out.2.1 HIn.out.2.2.1 HIn.out.2.2.2 rfl (by decide) _ _ _ rfl (HL.out.alloc _) ⟨wr.heap.size, 0, none⟩ 1 1 [.int .u8 ((s[xx]'hxs).toNat : Int)] rfl rfl ?c1 ?c2 ?c3 ?c4 ?c5 ?_)
          try case c1 => exact Ow.cell_new _ _ _
          case c2 => simp [Value.oneCell']
          case c3 => unfold maxLen; omega
          case c4 => omega
          case c5 => first | omega | (simp <;> omega)
          intro v' w6 hown2 hgrow _
          have HQ := Lib.hid ((HV.out.alloc hz _).grown hgrow (by simp; omega) fun g hg => (HL.out.lt g hg).1)
          have HO6 : Hid (w6.ownsRow wo.heap.size 5 1 v' (j + 1) bt1) := Lib.hid (by rw [HTK.out]; exact hown2)
          clear hown2 hgrow
          go_wp2_with fail
          go_roundw
          case rel => exact ⟨j + 1, _, hj1, rfl, by rw [HNX.out], HQ, by rw [hb1]; exact HO6⟩
          case measure => simp only [intOf]; exact HMS.out
        · obtain rfl : j = s.size := by omega
          have hcast : (s.size : Int) - 1 - (s.size : Int) = -1 := by omega
          rw [hcast]
          obtain ⟨g, cap, rfl⟩ := own_addr HL.out (by omega)
          have HT : Hid (L.take s.size = L) := Lib.hid (List.take_of_length_le (by rw [RL.out]; exact Nat.le_refl _))
          rw [HT.out] at HL
          have HRL := RL.out
          have CV0 := conv_bytes wr g cap L (bytes_of_row (by rw [HRL]; exact HL.out))
          rw [HRL] at CV0
          have HBW := Lib.hid (below_then HW.out HV.out)
          have HOW := Lib.hid (row_below HO.out HV.out)
          have hzw := HBW.out.size
          clear HRL hcast HL HT
          go_wp2_with (at_builtin; refine wpList_append_own _ rfl _ _ 22 rfl w1.heap.size 9 j0 _ 1 16 Try.underlying22 HJn.out.1 HJn.out.2.1 HJn.out.2.2.1 HJn.out.2.2.2 rfl (by decide) _ _ _ rfl (HOW.out.alloc _) ⟨wr.heap.size, 0, none⟩ 1 1 [.string ⟨L.toArray⟩] rfl rfl ?d1 ?d2 ?d3 ?d4 ?d5 ?_)
          try case d1 => exact Ow.cell_new _ _ _
          case d2 => simp [Value.oneCell']
          case d3 => unfold maxLen; omega
          case d4 => omega
          case d5 => first | omega | (simp <;> omega)
          intro v' w6 hown2 hgrow _
          have HQ := Lib.hid ((HBW.out.alloc hzw _).grown hgrow (by simp; omega) fun g hg => (HOW.out.lt g hg).1)
          have HO6 : Hid (w6.ownsRow w1.heap.size 9 1 v' (k + 1) (UP (k + 1))) := Lib.hid (by rw [HUk.out]; exact hown2)
          clear hown2 hgrow
          go_wp2_with fail
          go_roundw
          case rel => exact ⟨k + 1, _, hk1, rfl, by go_num, HQ, HO6⟩
          case measure => simp [intOf]; omega
    · obtain rfl : k = n := by omega
      have e1 : ¬ (k : Int) < (k : Int) := by omega
      have HF := Lib.hid (VV.out w1 wo v HO.out HB1.out HW.out)
      clear VV HU
      go_wp2_with fail
      exact HF.out
end Go.Proofs.Ytongfgikkcieaaa.H7
