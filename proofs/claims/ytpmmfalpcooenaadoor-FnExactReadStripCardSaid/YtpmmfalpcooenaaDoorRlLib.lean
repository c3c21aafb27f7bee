/- How a last's text is read: two cuts against the split at the blanks. -/
import Derived.Test.YtpmmfalpcooenaaDoorRfLib
import Derived.Lib.IndexMore
import Derived.Lib.IndexLaws
namespace Go.Proofs.YtpmmfalpcooenaaDoor.Rl
open Go.RowKit Go.Lib St Rn Rf

theorem idx_none {c : UInt8} {t : List UInt8} : ∀ l : List UInt8, (∀ x ∈ l, x ≠ c) → index l (c :: t) = -1
  | [], _ => by simp [index]
  | b :: l, h => by
    have ih := idx_none (t := t) l fun x hx => h x (by simp [hx])
    have hb : (c == b) = false := by have := h b (by simp); simp; exact fun e => this e.symm
    simp [index, ih, List.isPrefixOf, hb]
theorem idx_hd {c : UInt8} {t r : List UInt8} : ∀ a : List UInt8, (∀ x ∈ a, x ≠ c) → index (a ++ ((c :: t) ++ r)) (c :: t) = a.length
  | [], _ => by
    have : (c :: t).isPrefixOf ((c :: t) ++ r) = true := List.isPrefixOf_iff_prefix.2 ⟨r, rfl⟩
    simp only [List.nil_append, List.cons_append] at this ⊢
    simp [index, this]
  | b :: a, h => by
    have ih := idx_hd (t := t) (r := r) a fun x hx => h x (by simp [hx])
    have hb : (c == b) = false := by have := h b (by simp); simp; exact fun e => this e.symm
    simp only [List.cons_append] at ih ⊢
    simp only [index, List.isPrefixOf, hb, Bool.false_and, ih]
    simp
theorem idx_inv : ∀ (s sep : List UInt8), index s sep = -1 ∨ ∃ a r, index s sep = (a.length : Int) ∧ s = a ++ (sep ++ r)
  | [], sep => by
    cases sep with
    | nil => exact .inr ⟨[], [], by simp [index], rfl⟩
    | cons c t => exact .inl (by simp [index])
  | b :: l, sep => by
    by_cases hp : sep.isPrefixOf (b :: l) = true
    · obtain ⟨r, hr⟩ := List.isPrefixOf_iff_prefix.1 hp
      exact .inr ⟨[], r, by simp [index, hp], by simpa using hr.symm⟩
    · rcases idx_inv l sep with h | ⟨a, r, h, he⟩
      · exact .inl (by simp [index, hp, h])
      · refine .inr ⟨b :: a, r, ?_, by simp [he]⟩
        simp [index, hp, h]
theorem cut_hd {c : UInt8} {t a r : List UInt8} (h : ∀ x ∈ a, x ≠ c) : cut (a ++ ((c :: t) ++ r)) (c :: t) = (a, r, true) := by
  have hi := idx_hd (t := t) (r := r) a h
  unfold cut
  rw [hi, if_pos (by omega)]
  simp
theorem cut_inv (s sep : List UInt8) : cut s sep = (s, [], false) ∨ ∃ a r, cut s sep = (a, r, true) ∧ s = a ++ (sep ++ r) := by
  rcases idx_inv s sep with h | ⟨a, r, h, he⟩
  · exact .inl (by unfold cut; rw [h, if_neg (by omega)])
  · refine .inr ⟨a, r, ?_, he⟩
    unfold cut
    rw [h, if_pos (by omega)]
    rw [he]
    simp
theorem cut_none {c : UInt8} {t s : List UInt8} (h : ∀ x ∈ s, x ≠ c) : cut s (c :: t) = (s, [], false) := by
  unfold cut
  rw [idx_none s h, if_neg (by omega)]
/-- 'pitch'. -/
def pch : List UInt8 := [112, 105, 116, 99, 104]
/-- The parts that the program cuts off. -/
def nm (L : List UInt8) : List UInt8 := (cut L [32]).1
def rs (L : List UInt8) : List UInt8 := (cut L [32]).2.1
def fo (L : List UInt8) : List UInt8 := (cut (rs L) (32 :: (pch ++ [32]))).1
def ht (L : List UInt8) : List UInt8 := (cut (rs L) (32 :: (pch ++ [32]))).2.1
/-- Four words, the third one 'pitch'. -/
def Shape (L : List UInt8) : Prop := ∃ a b d, spl 32 L = [a, b, pch, d]
theorem spl_free {c : UInt8} : ∀ {L p : List UInt8} {ps : List (List UInt8)}, spl c L = p :: ps → ∀ x ∈ p, x ≠ c := fun h => by
  rcases Rz.spl_inv h with ⟨_, rfl, hf⟩ | ⟨_, _, hf, _⟩
  · exact hf
  · exact hf
theorem four_inv {L a b d e : List UInt8} (h : spl 32 L = [a, b, d, e]) : L = a ++ 32 :: (b ++ 32 :: (d ++ 32 :: e)) ∧ (∀ x ∈ a, x ≠ 32) ∧ (∀ x ∈ b, x ≠ 32) := by
  rcases Rz.spl_inv h with ⟨h0, _⟩ | ⟨r, rfl, fa, h1⟩
  · cases h0
  rcases Rz.spl_inv h1.symm with ⟨h0, _⟩ | ⟨r2, rfl, fb, h2⟩
  · cases h0
  rcases Rz.spl_inv h2.symm with ⟨h0, _⟩ | ⟨r3, rfl, fd, h3⟩
  · cases h0
  rcases Rz.spl_inv h3.symm with ⟨_, rfl, _⟩ | ⟨r4, _, _, h4⟩
  · exact ⟨rfl, fa, fb⟩
  · exact absurd h4.symm (spl_ne _ _)
/-- Where the words have the shape, the cuts give them. -/
theorem shape_cuts {L a b d : List UInt8} (h : spl 32 L = [a, b, pch, d]) : nm L = a ∧ fo L = b ∧ ht L = d := by
  obtain ⟨hL, fa, fb⟩ := four_inv h
  have h1 : cut L [32] = (a, b ++ 32 :: (pch ++ 32 :: d), true) := by
    rw [hL]
    exact cut_hd (t := []) fa
  have h2 : cut (b ++ 32 :: (pch ++ 32 :: d)) (32 :: (pch ++ [32])) = (b, d, true) := by
    have := cut_hd (c := 32) (t := pch ++ [32]) (a := b) (r := d) fb
    simpa using this
  refine ⟨by unfold nm; rw [h1], ?_, ?_⟩
  · unfold fo rs; rw [h1]; exact congrArg (·.1) h2
  · unfold ht rs; rw [h1]; exact congrArg (·.2.1) h2
theorem rd_nil : rdB [] = false := by simp [rdB, tl, isNeg]
theorem rd_blank {L : List UInt8} (h : rdB L = true) : ∀ x ∈ L, x ≠ 32 := fun x hx e => by
  have := Rz.rd_chars h x hx
  subst e
  simp at this
/-- Where the cuts give a foot and a number, the words have the shape. -/
theorem cuts_shape {L : List UInt8} (hf : ∀ x ∈ fo L, x ≠ 32) (hd : rdB (ht L) = true) : Shape L := by
  have hne : ht L ≠ [] := fun e => by rw [e, rd_nil] at hd; cases hd
  rcases cut_inv (rs L) (32 :: (pch ++ [32])) with h2 | ⟨b, d, h2, he⟩
  · exact absurd (by unfold ht; rw [h2]) hne
  have eb : fo L = b := by unfold fo; rw [h2]
  have ed : ht L = d := by unfold ht; rw [h2]
  rw [eb] at hf
  rw [ed] at hd
  obtain ⟨p, ps, hp⟩ : ∃ p ps, spl 32 L = p :: ps := by
    cases hs : spl 32 L with
    | nil => exact absurd hs (spl_ne _ _)
    | cons p ps => exact ⟨p, ps, rfl⟩
  rcases Rz.spl_inv hp with ⟨_, rfl, fr⟩ | ⟨r, hL, fp, hps⟩
  · have : rs p = [] := by unfold rs; rw [cut_none fr]
    rw [this] at he
    cases b <;> simp at he
  have hr : rs L = r := by
    unfold rs
    rw [hL, show p ++ 32 :: r = p ++ (([32] : List UInt8) ++ r) from rfl, cut_hd (t := []) fp]
  rw [hr] at he
  refine ⟨p, b, d, ?_⟩
  rw [hp, hps, he, show b ++ (32 :: (pch ++ [32]) ++ d) = b ++ 32 :: (pch ++ 32 :: d) by simp, spl_hit 32 b _ hf, spl_hit 32 pch _ (by decide), spl_none 32 d (rd_blank hd)]
theorem spl_mem {c : UInt8} : ∀ (L : List UInt8) (x : UInt8), x ∈ L → x = c ∨ ∃ p ∈ spl c L, x ∈ p := by
  intro L
  induction hn : L.length using Nat.strongRecOn generalizing L with
  | _ n ih =>
    intro x hx
    obtain ⟨p, ps, hp⟩ : ∃ p ps, spl c L = p :: ps := by
      cases hs : spl c L with
      | nil => exact absurd hs (spl_ne _ _)
      | cons p ps => exact ⟨p, ps, rfl⟩
    rcases Rz.spl_inv hp with ⟨_, rfl, _⟩ | ⟨r, hL, _, hps⟩
    · exact .inr ⟨p, by rw [hp]; simp, hx⟩
    · rw [hL] at hx
      simp at hx
      rcases hx with hx | hx | hx
      · exact .inr ⟨p, by rw [hp]; simp, hx⟩
      · exact .inl hx
      · rcases ih r.length (by rw [← hn, hL]; simp; omega) r rfl x hx with h | ⟨q, hq, hxq⟩
        · exact .inl h
        · exact .inr ⟨q, by rw [hp, hps]; simp [hq], hxq⟩
/-- A foot's text holds no blank. -/
theorem rf_blank {L : List UInt8} (h : rfB L = true) : ∀ x ∈ L, x ≠ 32 := fun x hx e => by
  unfold rfB at h
  simp only [Bool.and_eq_true, decide_eq_true_eq] at h
  obtain ⟨h4, h0, h1, h2, h3, _⟩ := h
  rcases spl_mem (c := 47) L x hx with rfl | ⟨p, hp, hxp⟩
  · simp at e
  · obtain ⟨j, hj, rfl⟩ := List.getElem_of_mem hp
    have hg : rfP L j = (spl 47 L)[j] := by unfold rfP; simp [List.getD, hj]
    rw [← hg] at hxp
    have hj4 : j = 0 ∨ j = 1 ∨ j = 2 ∨ j = 3 := by omega
    rcases hj4 with rfl | rfl | rfl | rfl
    · exact rd_blank h0 x hxp e
    · exact rd_blank h1 x hxp e
    · exact rd_blank h2 x hxp e
    · exact rd_blank h3 x hxp e
end Go.Proofs.YtpmmfalpcooenaaDoor.Rl
