/- The words that strings.FieldsFunc finds between blanks are the parts between blank bytes that are not empty. -/
import Derived.Test.YtcmjbpjeiaifoaaWsLib
import Derived.Lib.FieldsP
import Derived.Lib.DecodeN
import Derived.Lib.TrimUEq
namespace Go.Proofs.Ytcmjbpjeiaifoaa.Wu
open Go.RowKit Go.Lib St Ws
set_option linter.unusedVariables false

theorem decn_ns (n b0 b1 b2 b3 : Nat) (hn : 1 ≤ n) (hb : b0 ≠ 32) : (decodeN n b0 b1 b2 b3).1 ≠ 32 ∧ 1 ≤ (decodeN n b0 b1 b2 b3).2 ∧ (decodeN n b0 b1 b2 b3).2 ≤ n ∧ (decodeN n b0 b1 b2 b3).2 ≤ 4 ∧ (1 < (decodeN n b0 b1 b2 b3).2 → b1 ≠ 32) ∧ (2 < (decodeN n b0 b1 b2 b3).2 → b2 ≠ 32) ∧ (3 < (decodeN n b0 b1 b2 b3).2 → b3 ≠ 32) := by
  unfold decodeN
  repeat' split
  all_goals refine ⟨?_, ?_, ?_, ?_, ?_, ?_, ?_⟩ <;> simp only <;> omega
theorem dec_sp (s : ByteArray) (pos : Nat) (hb : (s.get! pos).toNat = 32) : Utf8.decode s pos = (32, 1) := by
  rw [decode_at, decodeN_ascii _ _ _ _ _ (by omega), hb]
theorem dec_ns (s : ByteArray) (pos : Nat) (h : pos < s.size) (hb : (s.get! pos).toNat ≠ 32) :
    (Utf8.decode s pos).1 ≠ 32 ∧ 1 ≤ (Utf8.decode s pos).2 ∧ pos + (Utf8.decode s pos).2 ≤ s.size ∧ ∀ j, j < (Utf8.decode s pos).2 → (s.get! (pos + j)).toNat ≠ 32 := by
  rw [decode_at]
  obtain ⟨h1, h2, h3, h4, h5, h6, h7⟩ := decn_ns (s.size - pos) (s.get! pos).toNat (s.get! (pos + 1)).toNat (s.get! (pos + 2)).toNat (s.get! (pos + 3)).toNat (by omega) hb
  refine ⟨h1, h2, by omega, fun j hj => ?_⟩
  obtain rfl | rfl | rfl | rfl : j = 0 ∨ j = 1 ∨ j = 2 ∨ j = 3 := by omega
  · exact hb
  · exact h5 (by omega)
  · exact h6 (by omega)
  · exact h7 (by omega)
theorem get_at (s : ByteArray) (i : Nat) (h : i < s.size) : s.data.toList[i]? = some (s.get! i) := by
  obtain ⟨⟨l⟩⟩ := s
  have hl : i < l.length := h
  show l[i]? = some (Array.getD ⟨l⟩ i default)
  rw [List.getElem?_eq_getElem hl]
  simp [Array.getD, hl]
theorem ne_of_nat {c : UInt8} (h : c.toNat ≠ 32) : c ≠ 32 := fun e => h (by rw [e]; rfl)
/-- Words as texts. -/
def wrdB (l : List UInt8) : List ByteArray := (wrd l).map fun q => ⟨q.toArray⟩
theorem wrd_blank (r : List UInt8) : wrd (32 :: r) = wrd r := by
  unfold wrd
  rw [show spl 32 (32 :: r) = [] :: spl 32 r by rw [spl, if_pos rfl]]
  rfl
theorem wrd_hit {a r : List UInt8} (h : ∀ x ∈ a, x ≠ 32) (h0 : a ≠ []) : wrd (a ++ 32 :: r) = a :: wrd r := by
  unfold wrd
  rw [spl_hit _ _ _ h, List.filter_cons]
  simp [h0]
theorem wrd_none {a : List UInt8} (h : ∀ x ∈ a, x ≠ 32) (h0 : a ≠ []) : wrd a = [a] := by
  unfold wrd
  rw [spl_none _ _ h, List.filter_cons]
  simp [h0]
theorem drop_cut {L : List UInt8} {a pos : Nat} (ha : a ≤ pos) (h : L[pos]? = some 32) : L.drop a = (L.drop a).take (pos - a) ++ 32 :: L.drop (pos + 1) := by
  obtain ⟨hp, hc⟩ := List.getElem?_eq_some_iff.1 h
  conv => lhs; rw [← List.take_append_drop (pos - a) (L.drop a)]
  rw [List.drop_drop, show a + (pos - a) = pos by omega, List.drop_eq_getElem_cons hp, hc]
def isB (r : Nat) : Bool := r == 32
theorem spans_words (s : ByteArray) (f : Nat) : ∀ (pos : Nat) (st : Option Nat) (acc : List (Nat × Nat)), s.size - pos ≤ f → pos ≤ s.size →
    (∀ a, st = some a → a < pos ∧ ∀ x ∈ (s.data.toList.drop a).take (pos - a), x ≠ 32) →
    (closeSpans s (spansFromP isB s f pos st acc)).map (fun x => s.extract x.1 x.2) = acc.map (fun x => s.extract x.1 x.2) ++ wrdB (s.data.toList.drop (st.getD pos)) := by
  have hsz : s.data.toList.length = s.size := by simp
  have fin : ∀ (pos : Nat) (st : Option Nat) (acc : List (Nat × Nat)), pos = s.size → (∀ a, st = some a → a < pos ∧ ∀ x ∈ (s.data.toList.drop a).take (pos - a), x ≠ 32) →
      (closeSpans s (acc, st)).map (fun x => s.extract x.1 x.2) = acc.map (fun x => s.extract x.1 x.2) ++ wrdB (s.data.toList.drop (st.getD pos)) := by
    intro pos st acc hp hst
    cases st with
    | none =>
      simp only [closeSpans, Option.getD_none]
      rw [List.drop_of_length_le (by omega)]
      simp [wrdB, wrd, spl]
    | some a =>
      obtain ⟨ha, hx⟩ := hst a rfl
      rw [List.take_of_length_le (by simp; omega)] at hx
      simp only [closeSpans, Option.getD_some]
      rw [List.map_append]
      congr 1
      unfold wrdB
      rw [wrd_none hx (fun e => by have := congrArg List.length e; simp at this; omega)]
      simp only [List.map_cons, List.map_nil]
      rw [ext_eq, List.take_of_length_le (by simp)]
  induction f with
  | zero =>
    intro pos st acc hf hp hst
    exact fin pos st acc (by omega) hst
  | succ f ih =>
    intro pos st acc hf hp hst
    by_cases hlt : pos < s.size
    · unfold spansFromP
      rw [if_pos hlt]
      by_cases hb : (s.get! pos).toNat = 32
      · rw [dec_sp s pos hb]
        have hL : s.data.toList[pos]? = some 32 := by
          rw [get_at s pos hlt]
          congr 1
          exact UInt8.toNat_inj.1 hb
        rw [if_pos (by rfl)]
        cases st with
        | none =>
          simp only
          rw [ih (pos + 1) none acc (by omega) (by omega) (fun a h => by cases h)]
          congr 1
          simp only [Option.getD_none]
          have hd := drop_cut (Nat.le_refl pos) hL
          simp at hd
          rw [hd]
          unfold wrdB
          rw [wrd_blank]
        | some a =>
          obtain ⟨ha, hx⟩ := hst a rfl
          simp only
          rw [ih (pos + 1) none (acc ++ [(a, pos)]) (by omega) (by omega) (fun a h => by cases h)]
          simp only [Option.getD_none, Option.getD_some, List.map_append, List.map_cons, List.map_nil, List.append_assoc]
          congr 1
          rw [drop_cut (L := s.data.toList) (Nat.le_of_lt ha) hL]
          unfold wrdB
          rw [wrd_hit hx (fun e => by have := congrArg List.length e; simp at this; omega), List.map_cons, ext_eq]
          rfl
      · obtain ⟨h1, h2, h3, h4⟩ := dec_ns s pos hlt hb
        rw [if_neg (by unfold isB; simpa using h1)]
        generalize (Utf8.decode s pos).2 = wd at h2 h3 h4
        have hw : ∀ x ∈ (s.data.toList.drop pos).take wd, x ≠ 32 := fun x hx => by
          obtain ⟨j, hj⟩ := List.mem_iff_getElem?.1 hx
          rw [List.getElem?_take] at hj
          split at hj
          · rename_i hjw
            rw [List.getElem?_drop, get_at s (pos + j) (by omega)] at hj
            obtain rfl := Option.some.inj hj
            exact ne_of_nat (h4 j hjw)
          · cases hj
        cases st with
        | none =>
          simp only
          rw [ih (pos + wd) (some pos) acc (by omega) (by omega) (fun a h => by
            obtain rfl := Option.some.inj h
            exact ⟨by omega, by rw [show pos + wd - pos = wd by omega]; exact hw⟩)]
          rfl
        | some a =>
          obtain ⟨ha, hx⟩ := hst a rfl
          simp only
          rw [ih (pos + wd) (some a) acc (by omega) (by omega) (fun a' h => by
            obtain rfl := Option.some.inj h
            refine ⟨by omega, fun x hx' => ?_⟩
            rw [show pos + wd - a = (pos - a) + wd by omega, List.take_add] at hx'
            rcases List.mem_append.1 hx' with h' | h'
            · exact hx x h'
            · rw [List.drop_drop, show a + (pos - a) = pos by omega] at h'
              exact hw x h')]
          rfl
    · rw [spansFromP_end _ _ _ _ _ _ hlt]
      exact fin pos st acc (by omega) hst
theorem fields_words (s : ByteArray) : goFieldsP isB s = wrdB s.data.toList := by
  have h := spans_words s s.size 0 none [] (by omega) (Nat.zero_le _) (fun a h => by cases h)
  simpa [goFieldsP, spansOfP] using h
end Go.Proofs.Ytcmjbpjeiaifoaa.Wu
