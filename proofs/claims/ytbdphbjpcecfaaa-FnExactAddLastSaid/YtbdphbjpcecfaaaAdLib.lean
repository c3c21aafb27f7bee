/- AddLast: a last put into its place; the spec's function. -/
import Derived.Test.YtbdphbjpcecfaaaLmLib
import Derived.Test.YtbdphbjpcecfaaaKsLib
namespace Go.Proofs.Ytbdphbjpcecfaaa.Ad
open Go.RowKit Ft Ge Qb La Ll Lv Pl

/-- A list of lasts reads as a row of values. -/
theorem lasts_at {w : World} {B g n : Nat} {N : Nat → ByteArray} {F : Nat → Nat → Int} (h : Lasts w B (some ⟨g, 0, none⟩) n N F) : ∀ i, i < n * 6 → w.cell? ⟨g, i, none⟩ = some (Ks.lv N F i) := fun i hi => by
  obtain ⟨b, off, e, _, hc⟩ := h.2.2 (by omega)
  cases e
  unfold Ks.lv
  by_cases h0 : i % 6 = 0
  · rw [if_pos h0]
    have := (hc (i / 6) (by omega)).1
    rw [show 0 + i / 6 * 6 = i by omega] at this
    exact this
  · rw [if_neg h0]
    have := (hc (i / 6) (by omega)).2 (i % 6 - 1) (by omega)
    rw [show 0 + i / 6 * 6 + (i % 6 - 1 + 1) = i by omega] at this
    exact this
/-- The list with one last put in at p. -/
def iN (N : Nat → ByteArray) (s : ByteArray) (p i : Nat) : ByteArray := if i < p then N i else if i = p then s else N (i - 1)
def iF (F : Nat → Nat → Int) (f : Nat → Int) (p i : Nat) : Nat → Int := if i < p then F i else if i = p then f else F (i - 1)
/-- The cells of m lasts from a on. -/
def seg (V : Nat → Value) (a m : Nat) : List Value := (List.range (m * 6)).map fun j => V (a * 6 + j)
theorem seg_get (V : Nat → Value) (a m j : Nat) : (seg V a m)[j]? = if j < m * 6 then some (V (a * 6 + j)) else none := by
  unfold seg
  rw [List.getElem?_map]
  by_cases h : j < m * 6
  · rw [if_pos h, List.getElem?_range h]; rfl
  · rw [if_neg h, List.getElem?_eq_none (by simpa using h)]; rfl
theorem seg_len (V : Nat → Value) (a m : Nat) : (seg V a m).length = m * 6 := by simp [seg]
theorem ins_row {N : Nat → ByteArray} {F : Nat → Nat → Int} {s : ByteArray} {f : Nat → Int} {n p : Nat} (hp : p ≤ n) :
    Ks.rowV (Ks.lv (iN N s p) (iF F f p)) ((n + 1) * 6) = seg (Ks.lv N F) 0 p ++ [.string s, .int .i64 (f 0), .int .i64 (f 1), .int .i64 (f 2), .int .i64 (f 3), .int .i64 (f 4)] ++ seg (Ks.lv N F) p (n - p) := by
  apply List.ext_getElem?
  intro j
  by_cases hj : j < (n + 1) * 6
  · rw [Ks.row_get _ hj]
    by_cases h1 : j < p * 6
    · rw [List.append_assoc, List.getElem?_append_left (by rw [seg_len]; exact h1), seg_get, if_pos h1]
      congr 1
      unfold Ks.lv iN iF
      simp only [Nat.zero_mul, Nat.zero_add]
      rw [if_pos (show j / 6 < p by omega), if_pos (show j / 6 < p by omega)]
    · by_cases h2 : j < p * 6 + 6
      · rw [List.getElem?_append_left (by rw [List.length_append, seg_len]; exact h2), List.getElem?_append_right (by rw [seg_len]; omega), seg_len]
        have e : j / 6 = p := by omega
        have R : j = p * 6 ∨ j = p * 6 + 1 ∨ j = p * 6 + 2 ∨ j = p * 6 + 3 ∨ j = p * 6 + 4 ∨ j = p * 6 + 5 := by omega
        have hN : iN N s p p = s := by unfold iN; rw [if_neg (by omega), if_pos rfl]
        have hF : iF F f p p = f := by unfold iF; rw [if_neg (by omega), if_pos rfl]
        rcases R with rfl | rfl | rfl | rfl | rfl | rfl
        · rw [Nat.sub_self, Ks.lv_0, hN]; rfl
        · rw [Nat.add_sub_cancel_left, show Ks.lv (iN N s p) (iF F f p) (p * 6 + 1) = _ from Ks.lv_j _ _ p (j := 0) (by omega), hF]; rfl
        · rw [Nat.add_sub_cancel_left, show Ks.lv (iN N s p) (iF F f p) (p * 6 + 2) = _ from Ks.lv_j _ _ p (j := 1) (by omega), hF]; rfl
        · rw [Nat.add_sub_cancel_left, show Ks.lv (iN N s p) (iF F f p) (p * 6 + 3) = _ from Ks.lv_j _ _ p (j := 2) (by omega), hF]; rfl
        · rw [Nat.add_sub_cancel_left, show Ks.lv (iN N s p) (iF F f p) (p * 6 + 4) = _ from Ks.lv_j _ _ p (j := 3) (by omega), hF]; rfl
        · rw [Nat.add_sub_cancel_left, show Ks.lv (iN N s p) (iF F f p) (p * 6 + 5) = _ from Ks.lv_j _ _ p (j := 4) (by omega), hF]; rfl
      · rw [List.getElem?_append_right (by rw [List.length_append, seg_len]; simp; omega), List.length_append, seg_len, seg_get, if_pos (by simp; omega)]
        congr 1
        unfold Ks.lv iN iF
        simp only [List.length_cons, List.length_nil]
        rw [if_neg (show ¬ j / 6 < p by omega), if_neg (show ¬ j / 6 = p by omega), if_neg (show ¬ j / 6 < p by omega), if_neg (show ¬ j / 6 = p by omega), show (p * 6 + (j - (p * 6 + 6))) % 6 = j % 6 by omega, show (p * 6 + (j - (p * 6 + 6))) / 6 = j / 6 - 1 by omega]
  · rw [List.getElem?_eq_none (by simp [Ks.rowV]; omega), List.getElem?_eq_none (by rw [List.length_append, List.length_append, seg_len, seg_len]; simp; omega)]
/-- Behind the place all names are greater. -/
theorem gt_at {n : Nat} {N : Nat → ByteArray} (h : ∀ i, i + 1 < n → lt (N i) (N (i + 1)) = true) {s : ByteArray} (ht : thr n N s = false) {i : Nat} (hi : i < n) : lt s (N i) = decide (pl n N s ≤ i) := by
  have hg := pl_at h s i hi
  by_cases hp : pl n N s ≤ i
  · rw [decide_eq_true hp] at hg ⊢
    have h1 : lt (N i) s = false := by unfold ge at hg; simpa using hg
    have h2 := le_bytes (N i).toList s.toList
    have h3 : Op.bytesLess (N i).toList s.toList = false := h1
    rw [h3] at h2
    have h4 : (s.toList == (N i).toList) = false := by
      cases hq : (s.toList == (N i).toList)
      · rfl
      · have he : ((N i).toList == s.toList) = true := by
          have := beq_iff_eq.1 hq
          rw [this]; simp
        have e := pl_eq h hi he
        have : thr n N s = true := by unfold thr; rw [e, decide_eq_true hi, he]; rfl
        rw [this] at ht
        cases ht
    rw [h4] at h2
    show Op.bytesLess s.toList (N i).toList = true
    simpa using h2
  · rw [decide_eq_false hp] at hg ⊢
    have h1 : lt (N i) s = true := by unfold ge at hg; simpa using hg
    cases hq : lt s (N i)
    · rfl
    · have := lt_tr _ _ _ h1 hq
      rw [lt_irr] at this
      cases this
theorem gt_two {n : Nat} {N : Nat → ByteArray} (h : ∀ i, i + 1 < n → lt (N i) (N (i + 1)) = true) {s : ByteArray} (ht : thr n N s = false) {i : Nat} (hi : i < n) :
    (pl n N s ≤ i → Op.bytesLess (N i).toList s.toList = false ∧ ((N i).toList == s.toList) = false) ∧ (i < pl n N s → Op.bytesLess (N i).toList s.toList = true) := by
  refine ⟨fun hp => ?_, fun hp => ?_⟩
  · have h1 : Op.bytesLess s.toList (N i).toList = true := (gt_at h ht hi).trans (decide_eq_true hp)
    have h2 := le_bytes s.toList (N i).toList
    rw [h1] at h2
    simpa [Bool.or_eq_false_iff] using h2
  · have hg := pl_at h s i hi
    rw [decide_eq_false (by omega)] at hg
    unfold ge at hg
    have : lt (N i) s = true := by simpa using hg
    exact this
end Go.Proofs.Ytbdphbjpcecfaaa.Ad
