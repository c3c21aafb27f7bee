/- The middle of some numbers: numbers by their places, sorted; two of them changed over; the spec's middle. -/
import Derived.Test.YtoincfhhafpekaaClLib
namespace Go.Proofs.Ytoincfhhafpekaa.Ms
open Go.RowKit Ft Fs Ld Is Fc Cl

def xs (h : Nat → Int) (n : Nat) : List Int := (List.range n).map h
/-- The numbers in ascending order, and the middle one. -/
def srt (f : Nat → Int) (n : Nat) : List Int := (xs f n).mergeSort fun x y => decide (x ≤ y)
def mid (f : Nat → Int) (n : Nat) : Int := (srt f n).getD ((n - 1) / 2) 0
theorem xs_len (h : Nat → Int) (n : Nat) : (xs h n).length = n := by simp [xs]
theorem xs_get (h : Nat → Int) {n i : Nat} (hi : i < n) : (xs h n)[i]? = some (h i) := by simp [xs, hi]
theorem srt_len (f : Nat → Int) (n : Nat) : (srt f n).length = n := by simp [srt, xs]
/-- Whatever order holds the numbers ascending is that one. -/
theorem srt_of {h f : Nat → Int} {n : Nat} (hp : (xs h n).Perm (xs f n)) (hs : ∀ a b, a < b → b < n → h a ≤ h b) : xs h n = srt f n := by
  refine List.Perm.eq_of_pairwise (le := fun x y : Int => x ≤ y) ?_ ?_ ?_ (hp.trans (List.mergeSort_perm _ _).symm)
  · intro a b _ _ h1 h2
    omega
  · unfold xs
    rw [List.pairwise_map]
    rw [List.pairwise_iff_getElem]
    intro i j hi hj hij
    simp at hi hj ⊢
    exact hs i j hij hj
  · have := List.pairwise_mergeSort (le := fun x y : Int => decide (x ≤ y)) (by intro a b c; simp; omega) (by intro a b; simp; omega) (xs f n)
    exact this.imp (by intro a b h; simpa using h)
theorem mid_of {h f : Nat → Int} {n : Nat} (h0 : 0 < n) (hp : (xs h n).Perm (xs f n)) (hs : ∀ a b, a < b → b < n → h a ≤ h b) : h ((n - 1) / 2) = mid f n := by
  have e := srt_of hp hs
  unfold mid
  rw [← e]
  simp [xs, List.getD, show (n - 1) / 2 < n by omega]

/-- Two neighbours changed over. -/
def sw (h : Nat → Int) (q : Nat) : Nat → Int := fun j => if j = q then h (q + 1) else if j = q + 1 then h q else h j
theorem sw_perm (h : Nat → Int) {q n : Nat} (hq : q + 1 < n) : (xs (sw h q) n).Perm (xs h n) := by
  obtain ⟨r, rfl⟩ : ∃ r, n = q + 2 + r := ⟨n - (q + 2), by omega⟩
  have key : ∀ g : Nat → Int, xs g (q + 2 + r) = (List.range q).map g ++ ([g q, g (q + 1)] ++ (List.range r).map fun j => g (q + 2 + j)) := fun g => by
    simp [xs, List.range_add, List.range_succ, Function.comp_def]
  rw [key, key]
  have e1 : (List.range q).map (sw h q) = (List.range q).map h := List.map_congr_left fun j hj => by
    have := List.mem_range.1 hj
    unfold sw
    rw [if_neg (by omega), if_neg (by omega)]
  have e2 : ((List.range r).map fun j => sw h q (q + 2 + j)) = (List.range r).map fun j => h (q + 2 + j) := List.map_congr_left fun j _ => by
    unfold sw
    rw [if_neg (by omega), if_neg (by omega)]
  have e3 : sw h q q = h (q + 1) := by simp [sw]
  have e4 : sw h q (q + 1) = h q := by simp [sw]
  rw [e1, e2, e3, e4]
  exact List.Perm.append_left _ (List.Perm.append_right _ (List.Perm.swap _ _ _))
/-- All but the one at k are in order up to i; those behind k are none of them less than it. -/
def Part (g : Nat → Int) (i k : Nat) : Prop := (∀ a b, a < b → b ≤ i → a ≠ k → b ≠ k → g a ≤ g b) ∧ ∀ b, k < b → b ≤ i → g k ≤ g b
theorem part_start {g : Nat → Int} {i : Nat} (h : ∀ a b, a < b → b < i → g a ≤ g b) : Part g i i :=
  ⟨fun a b hab hb _ hbk => h a b hab (by omega), fun b h1 h2 => by omega⟩
theorem part_step {g : Nat → Int} {i q : Nat} (h : Part g i (q + 1)) (hq : q + 1 ≤ i) (hgt : g (q + 1) < g q) : Part (sw g q) i q := by
  refine ⟨fun a b hab hb ha hbq => ?_, fun b h1 h2 => ?_⟩
  · unfold sw
    rw [if_neg ha, if_neg hbq]
    by_cases e : b = q + 1
    · subst e
      rw [if_pos rfl, if_neg (by omega)]
      exact h.1 a q (by omega) (by omega) (by omega) (by omega)
    · rw [if_neg e]
      by_cases e2 : a = q + 1
      · subst e2
        rw [if_pos rfl]
        exact h.1 q b (by omega) hb (by omega) e
      · rw [if_neg e2]
        exact h.1 a b hab hb e2 e
  · unfold sw
    rw [if_pos rfl, if_neg (by omega)]
    by_cases e : b = q + 1
    · subst e
      rw [if_pos rfl]
      omega
    · rw [if_neg e]
      exact h.2 b (by omega) h2
theorem part_zero {g : Nat → Int} {i : Nat} (h : Part g i 0) : ∀ a b, a < b → b < i + 1 → g a ≤ g b := fun a b hab hb => by
  by_cases e : a = 0
  · subst e
    exact h.2 b hab (by omega)
  · exact h.1 a b hab (by omega) e (by omega)
theorem part_end {g : Nat → Int} {i q : Nat} (h : Part g i (q + 1)) (hle : g q ≤ g (q + 1)) : ∀ a b, a < b → b < i + 1 → g a ≤ g b := fun a b hab hb => by
  by_cases e : a = q + 1
  · subst e
    exact h.2 b hab (by omega)
  · by_cases e2 : b = q + 1
    · subst e2
      by_cases e3 : a = q
      · subst e3; exact hle
      · exact Int.le_trans (h.1 a q (by omega) (by omega) (by omega) (by omega)) hle
    · exact h.1 a b hab (by omega) e e2

/-- A row of n numbers h in block g, of the call's own. -/
def At (w : World) (g n : Nat) (h : Nat → Int) : Prop := g < w.heap.size ∧ (∀ i, i < n → w.cell? ⟨g, i, none⟩ = some (.int .i64 (h i))) ∧ ∀ i, w.frozen? ⟨g, i, none⟩ = false
theorem at_sw {w : World} {g n q : Nat} {h : Nat → Int} (H : At w g n h) (hq : q + 1 < n) :
    At ((w.setCell ⟨g, q + 1, none⟩ (.int .i64 (h q))).setCell ⟨g, q, none⟩ (.int .i64 (h (q + 1)))) g n (sw h q) := by
  refine ⟨by simpa using H.1, fun i hi => ?_, fun i => by rw [World.frozen?_setCell, World.frozen?_setCell]; exact H.2.2 i⟩
  have ne : (⟨g, q + 1, none⟩ : Addr) ≠ ⟨g, q, none⟩ := fun e => by have := (Addr.mk.inj e).2.1; omega
  by_cases e : i = q
  · subst e
    have e3 : sw h i i = h (i + 1) := by simp [sw]
    rw [e3]
    refine World.cell?_setCell_same (u := .int .i64 (h i)) _ _ _ ?_
    rw [World.cell?_setCell_other _ _ _ _ ne]
    exact H.2.1 i hi
  · rw [World.cell?_setCell_other _ _ _ _ (fun e' => e (Addr.mk.inj e').2.1.symm)]
    by_cases e2 : i = q + 1
    · subst e2
      have e4 : sw h q (q + 1) = h q := by simp [sw]
      rw [e4]
      exact World.cell?_setCell_same _ _ _ (H.2.1 _ hi)
    · rw [World.cell?_setCell_other _ _ _ _ (fun e' => e2 (Addr.mk.inj e').2.1.symm), H.2.1 i hi]
      have e5 : sw h q i = h i := by simp [sw, e, e2]
      rw [e5]
theorem at_of_row {w : World} {B n : Nat} {t : TypeId} {v : Value} {f : Nat → Int} (h : w.ownsRow B t 1 v n (upto f n)) (h0 : 0 < n) : ∃ g cap, v = .slice (some ⟨g, 0, none⟩) n cap ∧ B ≤ g ∧ At w g n f := by
  rcases h.2 with ⟨_, rfl⟩ | ⟨g, cap, cur, rfl, hbg, hh, _⟩
  · omega
  · exact ⟨g, cap, rfl, hbg, lt_of_heap hh, fun i hi => (h.cellAt i (by omega)).trans (upto_get f hi), fun i => blk_free hh i⟩
/-- Cells of a slice as a list. -/
theorem cells_upto {w : World} {b off n : Nat} {f : Nat → Int} (hc : ∀ i, i < n → w.cell? ⟨b, off + i, none⟩ = some (.int .i64 (f i))) : ∀ j u, (upto f n)[j]? = some u → w.cell? ((⟨b, off, none⟩ : Addr).add j) = some u := by
  intro j u hu
  have hj : j < n := by
    have := (List.getElem?_eq_some_iff.1 hu).1
    simpa [upto] using this
  rw [upto_get f hj] at hu
  rw [Addr.add_lit, hc j hj]
  exact hu
theorem upto_one (f : Nat → Int) (n : Nat) : ∀ u ∈ upto f n, u.oneCell' = true := by
  intro u hu
  simp [upto] at hu
  obtain ⟨_, _, rfl⟩ := hu
  rfl
end Go.Proofs.Ytoincfhhafpekaa.Ms
