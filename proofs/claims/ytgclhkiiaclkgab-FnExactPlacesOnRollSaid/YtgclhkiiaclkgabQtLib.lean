/- A region that draws its order: what stands ahead only reads and calls what leaves all that lay before as it was (a class of worlds); one chain of operations closes it, which waits for all the others. Walked once. -/
import Derived.Test.YtgclhkiiaclkgabQbLib
import Derived.StillTail
namespace Go.Proofs.Ytgclhkiiaclkgab.Qt
open Go Go.RowKit Qb
section
variable {P : Program} {ops : Array Oper} {C : World → Prop}

/-- The head of the region is over when L holds: until then only head operations come up, each of them quiet. -/
def headQ (P : Program) (ops : Array Oper) (C : World → Prop) (n : Nat) (L : Array Bool → Act → Prop) : Nat → Array Bool → Act → Prop
  | 0, ls, a => L ls a
  | k + 1, ls, a => (Region.ready .any ops ls ≠ []) ∧ ∀ i ∈ Region.ready .any ops ls, i < n ∧ qOp P ops C i (headQ P ops C n L k (ls.setIfInBounds i true)) a
theorem head_then {n r : Nat} {L : Array Bool → Act → Prop} {Q' : Exit → Act → World → Prop} (hL : ∀ ls a w, C w → L ls a → wpAny P .any ops Q' r ls a w) (k : Nat) :
    ∀ ls a w, C w → headQ P ops C n L k ls a → wpAny P .any ops Q' (k + r) ls a w := by
  induction k with
  | zero => intro ls a w hw h; rw [Nat.zero_add]; exact hL ls a w hw h
  | succ k ih =>
    intro ls a w hw h
    rw [Nat.add_right_comm]
    exact ⟨fun e => absurd e h.1, fun i hi => wpOp_of_qOp hw (fun a' w' hw' q => ih _ a' w' hw' q) (h.2 i hi).2⟩
/-- Who waits for i can't be ahead of it. -/
theorem not_on {ls : Array Bool} {i : Nat} {oj : Oper} (hi : ls.getD i true = false) (hall : ∀ e ∈ oj.after, Region.binds .any e = true → ls.getD e.on false = true) : ∀ e ∈ oj.after, Region.binds .any e = true → e.on ≠ i := fun e he hb q => by
  have := hall e he hb
  rw [q, getD_both hi] at this
  cases this
/-- A head operation may be taken first. -/
theorem head_first {n i : Nat} {oi : Oper} {v : Value} {L : Array Bool → Act → Prop} (ho : ops[i]? = some oi) (hsel : ∀ (j : Nat) (o : Oper) cs b, ops[j]? = some o → o.op ≠ .select cs b)
    (hs : Region.sinkB .any ops n = true) (hc : Region.chainB .any ops n = true) (hn : n < ops.size) (hin : i < n) (hd : ∀ ls a, L ls a → ∀ j ∈ Region.ready .any ops ls, n ≤ j) (k : Nat) :
    ∀ ls a, HeadInv .any ops n ls → (∀ j oj, ops[j]? = some oj → j ≠ i → ls.getD j true = false → (∀ e ∈ oj.after, Region.binds .any e = true → e.on ≠ i) → oi.apart ops oj = true) → i ∈ Region.ready .any ops ls →
      YieldsIn P ops C oi v a → headQ P ops C n L k (ls.setIfInBounds i true) (a.put oi.dst v) → headQ P ops C n L (k + 1) ls a := by
  induction k with
  | zero =>
    intro ls a inv hf hr hy H
    have hu := (mem_ready.1 hr).1
    refine ⟨List.ne_nil_of_mem hr, fun j hj => ?_⟩
    have jn : j < n := Nat.lt_of_not_le fun q => tail_waits hs hc hn inv _ i rfl hin hu j q hj
    refine ⟨jn, ?_⟩
    by_cases e : j = i
    · rw [e]; exact hy.qOp ho H
    · exact absurd (hd _ _ H j (ready_mono hj e)) (by omega)
  | succ k ih =>
    intro ls a inv hf hr hy H
    have hu := (mem_ready.1 hr).1
    refine ⟨List.ne_nil_of_mem hr, fun j hj => ?_⟩
    have jn : j < n := Nat.lt_of_not_le fun q => tail_waits hs hc hn inv _ i rfl hin hu j q hj
    refine ⟨jn, ?_⟩
    by_cases e : j = i
    · rw [e]; exact hy.qOp ho H
    · obtain ⟨ju, oj, hoj, hall⟩ := mem_ready.1 hj
      refine qOp_mono (fun a' q => ih _ a' (inv.set hj jn) (fun x ox hx xi xu xw => hf x ox hx xi ?_ xw) (ready_mono hr (Ne.symm e)) q.1 ?_)
        (qOp_put hoj (hf j oj hoj e ju (not_on hu hall)) (fun cs b => hsel i oi cs b ho) (fun cs b => hsel j oj cs b hoj) hy (H.2 j (ready_mono hj e)).2)
      · by_cases q2 : j = x
        · rw [← q2]; exact ju
        · rwa [getD_set_ne true q2] at xu
      · rw [Array.setIfInBounds_comm _ _ e]; exact q.2
theorem head_lex {n r : Nat} {Lq : Act → Prop} (hsel : Region.noSelect ops = true) (hs : Region.sinkB .any ops n = true) (hc : Region.chainB .any ops n = true) (hn : n < ops.size) (l : List Oper) :
    ∀ k ls a, (∀ j, j < l.length → l[j]? = ops[k + j]?) → k + l.length = n → HeadInv .any ops n ls → Region.lexHead .any ops r l.length k ls = true → wpQuiet P ops C Lq l a →
      headQ P ops C n (fun ls' a' => Region.seqB .any ops r n ls' = true ∧ Lq a') l.length ls a := by
  induction l with
  | nil =>
    intro k ls a _ hk _ hB h
    have e : k = n := by simpa using hk
    rw [e] at hB
    exact ⟨by simpa [Region.lexHead] using hB, h⟩
  | cons o l ih =>
    intro k ls a hl hk inv hB h
    have h0 : ops[k]? = some o := by simpa using (hl 0 (by simp)).symm
    have hk' : k + 1 + l.length = n := by rw [List.length_cons] at hk; omega
    simp only [List.length_cons, Region.lexHead, Bool.and_eq_true] at hB
    have hr : k ∈ Region.ready .any ops ls := by simpa using hB.1.1
    obtain ⟨v, hy, hK⟩ := yieldsIn_of_qOp (P := P) (C := C) (K := wpQuiet P ops C Lq l) h0 (by unfold qOp; rw [h0]; exact h)
    exact head_first h0 (Region.noSelect_spec hsel) hs hc hn (by omega) (fun _ _ hL => seqB_ready hL.1) _ ls a inv (Region.free_spec h0 hB.1.2) hr hy
      (ih (k + 1) _ _ (fun j hj => by have := hl (j + 1) (by simp; omega); rw [show k + 1 + j = k + (j + 1) by omega]; simpa using this) hk' (inv.set hr (by omega)) hB.2 hK)
/-- **One walk serves every order**: n operations ahead, in any world of the class; then the others, in the order of the text. -/
theorem wp_region_quiet_tail {id : Nat} {Q : Exit → Act → World → Prop} {a : Act} {w : World} {l : List Oper} (n : Nat) (hm : P.follows .mixedOrders = true) (hB : Region.lexTailB .any l.toArray n = true) (hC : C { w with drawn := w.drawn + 1 })
    (h : wpQuiet P l.toArray C (fun a' => ∀ w', C w' → wpList P l.toArray Q (l.drop n) a' w') (l.take n) a) : (Code.region id l.toArray true).wp P Q a w := by
  simp only [Region.lexTailB, Bool.and_eq_true, decide_eq_true_eq] at hB
  obtain ⟨⟨⟨⟨hsel, hn⟩, hs⟩, hc⟩, hlex⟩ := hB
  have hn' : n < l.length := by simpa using hn
  have h1 : (l.take n).length = n := by simp; omega
  have h2 : (l.drop n).length = l.toArray.size - n := by simp
  have H := head_lex (r := l.toArray.size - n) hsel hs hc hn (l.take n) 0 (Array.replicate l.toArray.size false) a (fun j hj => by rw [h1] at hj; simp [hj]) (by omega)
    ⟨by simp, (fun j oj _ q => by rw [getD_replicate_false] at q; cases q), fun t _ ht => getD_in (by simpa using ht) (getD_replicate_false _ _)⟩ (by rw [h1]; exact hlex) h
  refine wp_region_any hm ?_
  have := head_then (Q' := Q) (r := l.toArray.size - n) (fun ls a' w' hw hL => by
    have := wpAny_of_seq (md := .any) (Q' := Q) (l.drop n) n ls a' w' (fun j => by simp [List.getElem?_drop]) (by rw [h2]; exact hL.1) (hL.2 w' hw)
    rwa [h2] at this) _ _ _ _ hC H
  rwa [h1, show n + (l.toArray.size - n) = l.toArray.size by omega] at this
/-- At the class of worlds that have come of one. -/
theorem wp_region_below_tail {id : Nat} {Q : Exit → Act → World → Prop} {a : Act} {w : World} {l : List Oper} (n : Nat) (hm : P.follows .mixedOrders = true) (hB : Region.lexTailB .any l.toArray n = true)
    (h : wpQuiet P l.toArray (fun w' => ∃ p : Beyond w, w' = p.to) (fun a' => ∀ w', (∃ p : Beyond w, w' = p.to) → wpList P l.toArray Q (l.drop n) a' w') (l.take n) a) : (Code.region id l.toArray true).wp P Q a w :=
  wp_region_quiet_tail n hm hB ⟨⟨w.drew, (Below.refl _ w).drew⟩, rfl⟩ h
end
end Go.Proofs.Ytgclhkiiaclkgab.Qt
