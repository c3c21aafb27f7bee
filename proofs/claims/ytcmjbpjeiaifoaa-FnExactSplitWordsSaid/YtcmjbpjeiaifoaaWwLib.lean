/- SplitWords: the program's walk. -/
import Derived.Test.YtcmjbpjeiaifoaaFf
import Derived.Test.YtcmjbpjeiaifoaaWuLib
import Derived.Test.YtcmjbpjeiaifoaaTsLib
namespace Go.Proofs.Ytcmjbpjeiaifoaa.Ww
open Go.RowKit Ba St Ws Wu Ts
set_option linter.unusedVariables false

def tx (P : List (List UInt8)) (i : Nat) : ByteArray := ⟨(P.getD i []).toArray⟩
theorem tx_get {P : List (List UInt8)} {i : Nat} (h : i < P.length) : (strs P)[i]? = some (.string (tx P i)) := by
  rw [strs_get h]
  unfold tx
  rw [List.getD_eq_getElem?_getD, List.getElem?_eq_getElem h]
  rfl
def ListT (P : List (List UInt8)) (w : World) (e : Ending) (w' : World) : Prop :=
  ∃ A cap, e = .returned (.slice A P.length cap) ∧ Hid (OwnT w' w.heap.size A P.length (tx P)) ∧ Hid (Below w.heap.size w w')
theorem own_of_row {P : List (List UInt8)} {w' : World} {base B : Nat} {v : Value} (h : w'.ownsRow base 9 1 v P.length (strs P)) (hb : B ≤ base) : ∃ A cap, v = .slice A P.length cap ∧ OwnT w' B A P.length (tx P) := by
  rcases h.2 with ⟨rfl, h0⟩ | ⟨g, cap, cur, rfl, hbg, hh, _⟩
  · exact ⟨none, 0, by rw [h0], fun hp => by omega⟩
  · exact ⟨_, cap, rfl, fun _ => ⟨g, 0, rfl, by omega, lt_of_heap hh, fun i hi => by rw [Nat.zero_add, h.cellAt i (by omega), tx_get hi], fun i => blk_free hh i⟩⟩
theorem own_same {wr : World} {B n j : Nat} {b off : Nat} {f : Nat → ByteArray} (hB : B ≤ b) (hlt : b < wr.heap.size) (hj : j < n)
    (hc : ∀ i, i < n → wr.cell? ⟨b, off + i, none⟩ = some (.string (f i))) (hf : ∀ i, wr.frozen? ⟨b, i, none⟩ = false) :
    OwnT (wr.setCell ⟨b, off + j, none⟩ (.string (f j))) B (some ⟨b, off, none⟩) n f := fun _ =>
  ⟨b, off, rfl, hB, by simpa using hlt, fun i hi => by
    by_cases e : i = j
    · subst e
      rw [World.cell?_setCell_same _ _ _ (hc i hi)]
    · rw [World.cell?_setCell_other _ _ _ _ (show (⟨b, off + j, none⟩ : Addr) ≠ ⟨b, off + i, none⟩ from fun q => by have := (Addr.mk.inj q).2.1; omega), hc i hi], fun i => (World.frozen?_setCell _ _ _ _).trans (hf i)⟩
theorem spec_list (s : ByteArray) (hs : s.size ≤ 1048576) (w : World) : Calls Try.prog 31 #[.string s] w (ListT (wrd s.data.toList) w) := by
  refine (spec_words s hs w).mono ?_
  rintro e w' ⟨v, rfl, HR, hb⟩
  obtain ⟨A, cap, rfl, ho⟩ := own_of_row HR.out (Nat.le_refl _)
  exact ⟨A, cap, rfl, Lib.hid ho, Lib.hid hb⟩
theorem blank_any (x : Nat) (w : World) : Calls Try.prog 62 #[.int .i32 (x : Int)] w fun e w' => e = .returned (.bool (isB x)) ∧ w = w' := by
  have hx : isB x = ((x : Int) == 32) := by unfold isB; rw [Bool.eq_iff_iff]; simp; omega
  rw [hx]
  go_enter Try.func62, Try.ntmps62
  go_wp2_with fail
  go_ret
  exact ⟨rfl, rfl⟩
theorem clone_any (s : ByteArray) (hs : s.size ≤ 1048576) (w : World) : Calls Try.prog 63 #[.string s] w fun e w' => e = .returned (.string s) ∧ Below w.heap.size w w' := by
  have C := Lib.hid (Try.stringslite_Clone s w (by omega))
  go_enter Try.func63, Try.ntmps63
  go_wp2_with fail
  refine C.out.mono ?_
  rintro e w1 ⟨rfl, b1⟩
  go_wp2_with fail
  go_ret
  exact ⟨rfl, b1⟩
theorem wrd_len (L : List UInt8) : (wrd L).length ≤ L.length + 1 := by
  have h1 := List.length_filter_le (fun p : List UInt8 => !p.isEmpty) (spl 32 L)
  have h2 := spl_len 32 L
  unfold wrd
  omega
theorem spl_part (c : UInt8) (L : List UInt8) : ∀ p ∈ spl c L, p.length ≤ L.length := by
  induction L with
  | nil => simp [spl]
  | cons x r ih =>
    intro p hp
    unfold spl at hp
    split at hp
    · rcases List.mem_cons.1 hp with rfl | h
      · simp
      · have := ih p h; simp; omega
    · split at hp
      · rename_i q qs hq
        rw [hq] at ih
        rcases List.mem_cons.1 hp with rfl | h
        · have := ih q (by simp); simp; omega
        · have := ih p (by simp [h]); simp; omega
      · simp at hp; rw [hp]; simp
theorem tx_size (L : List UInt8) (i : Nat) : (tx (wrd L) i).size ≤ L.length := by
  show ((wrd L).getD i []).length ≤ _
  rw [List.getD_eq_getElem?_getD]
  cases h : (wrd L)[i]? with
  | none => simp
  | some p => exact spl_part 32 L p (List.mem_filter.1 (List.mem_of_getElem? h)).1
set_option maxRecDepth 100000 in
set_option maxHeartbeats 2000000 in
theorem impl_list (s : ByteArray) (hs : s.size ≤ 1048576) (w : World) : Calls Try.prog 32 #[.string s] w (ListT (wrd s.data.toList) w) := by
  have FF := Lib.hid (Try.strings_FieldsFunc_runes 62 #[] (enters_of Try.func62 (by kernel_rfl) rfl) isB s w (by omega) (fun W x _ _ => (blank_any x W).mono fun e w' h => ⟨h.1, 0, h.2.symm⟩))
  have hl : (wrd s.data.toList).length ≤ 1048577 := by
    have := wrd_len s.data.toList
    simp at this
    omega
  have CL := Lib.hid fun i w => clone_any (tx (wrd s.data.toList) i) (by have := tx_size s.data.toList i; simp at this; omega) w
  have hg : Lib.goFieldsP isB s = wrdB s.data.toList := fields_words s
  rw [hg] at FF
  have hm : (wrdB s.data.toList).map Value.string = strs (wrd s.data.toList) := by unfold wrdB strs; rw [List.map_map]; rfl
  have hlen : (wrdB s.data.toList).length = (wrd s.data.toList).length := by simp [wrdB]
  rw [hm, hlen] at FF
  clear hm hlen hg hs
  generalize wrd s.data.toList = P at FF hl CL ⊢
  go_enter Try.func32, Try.ntmps32
  go_wp2_with fail
  refine FF.out.mono ?_
  rintro e w1 ⟨g, rfl, _, hrow, b1⟩
  obtain ⟨A, cap, hA, ho⟩ := own_of_row (B := w.heap.size) hrow (Nat.le_refl _)
  obtain ⟨rfl, rfl⟩ : A = some ⟨g, 0, none⟩ ∧ cap = P.length := by
    cases hA
    exact ⟨rfl, rfl⟩
  have HB1 := Lib.hid b1
  have HO1 := Lib.hid ho
  clear hA hrow b1 ho FF
  go_wp2_with fail
  go_loopw [4, 5, 10] (fun _ _ i wr => ∃ k : Nat, k ≤ P.length ∧ i = .int .i64 (k : Int) ∧ Hid (Below w.heap.size w wr) ∧ Hid (OwnT wr w.heap.size (some ⟨g, 0, none⟩) P.length (tx P))) (fun _ _ i _ => P.length - (intOf i).toNat)
  case atStart => exact ⟨0, Nat.zero_le _, rfl, HB1, HO1⟩
  case round =>
    obtain ⟨k, hk, rfl, HB, HO⟩ := hrel
    by_cases hlt : k < P.length
    · have C := Lib.hid (CL.out k)
      obtain ⟨b', off', e', hB', hbs', hc', hf'⟩ := HO.out (by omega)
      obtain ⟨rfl, rfl⟩ : g = b' ∧ 0 = off' := by simpa using e'
      have x0 := hc' k hlt
      rw [Nat.zero_add] at x0
      have hzr := HB.out.size
      have hk1 : (k : Int) < (P.length : Int) := by omega
      clear hc' hf' e'
      generalize hx : tx P k = x at x0 C
      go_wp2_with fail
      refine (C.out _).mono ?_
      rintro e w2 ⟨rfl, b2⟩
      have HB2 := Lib.hid (below_then HB.out b2)
      have HO2 := Lib.hid (HO.out.below b2)
      obtain ⟨b', off', e', hB2', hbs2', hc2', hf2'⟩ := HO2.out (by omega)
      obtain ⟨rfl, rfl⟩ : g = b' ∧ 0 = off' := by simpa using e'
      have y0 := hc2' k hlt
      have z0 := hf2' k
      have HN := Lib.hid (own_same hB2' hbs2' hlt hc2' hf2')
      rw [Nat.zero_add] at y0 HN
      rw [hx] at y0 HN
      have HQ := Lib.hid (HB2.out.setCell (p := ⟨g, k, none⟩) hB2' (.string x))
      clear b2 x0 hc2' hf2' e'
      go_wp2_with fail
      go_roundw
      case rel => exact ⟨k + 1, by omega, by go_num, HQ, HN⟩
      case measure => simp [intOf]; omega
    · obtain rfl : k = P.length := by omega
      go_wp2_with fail
      go_ret
      exact ⟨_, _, rfl, HO, HB⟩
end Go.Proofs.Ytcmjbpjeiaifoaa.Ww
