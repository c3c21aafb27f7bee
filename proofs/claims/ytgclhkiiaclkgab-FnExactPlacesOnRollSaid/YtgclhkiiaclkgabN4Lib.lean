/- Rows of two numbers, each in a block of its own, as they are made. -/
import Derived.Test.YtgclhkiiaclkgabGeLib
import Derived.Test.YtgclhkiiaclkgabIsLib
import Derived.Test.YtgclhkiiaclkgabBwLib
import Derived.Test.YtgclhkiiaclkgabBaLib
import Derived.Test.YtgclhkiiaclkgabSslLib
import Derived.OneCell
namespace Go.Proofs.Ytgclhkiiaclkgab.N4
set_option linter.unusedVariables false
open Go.RowKit Ft Is Ge

theorem own_neT {w : World} {base : Nat} {e t : TypeId} {size n : Nat} {v : Value} {xs : List Value} (h : w.ownsRow base e size v n xs) {b : Nat} {cs : Array Value} (hb : w.heap[b]? = some (.cells cs t (0, 0))) (hne : t ≠ e) : some b ≠ v.ownBlock := fun q => by
  rcases h.2 with ⟨rfl, _⟩ | ⟨g, cap, cur, rfl, _, hh, _⟩
  · cases q
  · cases q
    rw [hb] at hh
    cases hh
    exact hne rfl
structure R2 (w : World) (B : Nat) (v : Value) (n : Nat) (d : Nat → Nat → Int) (G : Nat → Nat) : Prop where
  out : w.ownsRow B 30 1 v n ((List.range n).map fun r => .slice (some ⟨G r, 0, none⟩) 2 2)
  inn : ∀ r, r < n → w.heap[G r]? = some (.cells #[.int .i64 (d r 0), .int .i64 (d r 1)] 2 (0, 0)) ∧ B ≤ G r
  apart : ∀ r s, r < s → s < n → G r ≠ G s
theorem R2.below {w w' : World} {B : Nat} {v : Value} {n : Nat} {d : Nat → Nat → Int} {G : Nat → Nat} (h : R2 w B v n d G) (hb : Below w.heap.size w w') : R2 w' B v n d G :=
  ⟨Ge.row_below h.out hb, fun r hr => ⟨Ge.blk_keep hb (h.inn r hr).1, (h.inn r hr).2⟩, h.apart⟩
theorem ty_ne : (2 : TypeId) ≠ 30 := by decide
theorem r2_zero (w : World) (d : Nat → Nat → Int) : R2 (w.alloc (.cells #[] 30)) w.heap.size (.slice (some ⟨w.heap.size, 0, none⟩) 0 0) 0 d (fun _ => 0) :=
  ⟨⟨rfl, .inr ⟨_, 0, _, rfl, Nat.le_refl _, heap_alloc_new _ _, by simp, by unfold maxLen; omega, rfl, rfl⟩⟩, fun r hr => by omega, fun r s _ hs => by omega⟩
/-- One more row. -/
theorem R2.step {w w2 w' : World} {B : Nat} {v v' : Value} {n : Nat} {d : Nat → Nat → Int} {G : Nat → Nat} (h : R2 w B v n d G) (hb : Below w.heap.size w w2) {gn : Nat} (hn : w.heap.size ≤ gn) (hx : w2.heap[gn]? = some (.cells #[.int .i64 (d n 0), .int .i64 (d n 1)] 2 (0, 0))) (hB : B ≤ w.heap.size)
    (ho : w'.ownsRow B 30 1 v' (n + 1) (((List.range n).map fun r => Value.slice (some ⟨G r, 0, none⟩) 2 2) ++ [.slice (some ⟨gn, 0, none⟩) 2 2])) (hg : w2.grownBy w' v.ownBlock) : R2 w' B v' (n + 1) d (fun r => if r = n then gn else G r) := by
  have h2 := h.below hb
  have keep : ∀ {q : Nat} {cs : Array Value}, w2.heap[q]? = some (.cells cs 2 (0, 0)) → w'.heap[q]? = some (.cells cs 2 (0, 0)) := fun {q} {cs} hq => (hg.block _ (lt_of_heap hq) (own_neT h2.out hq ty_ne)).trans hq
  refine ⟨?_, fun r hr => ?_, fun r s hrs hs => ?_⟩
  · have e : ((List.range (n + 1)).map fun r => Value.slice (some ⟨if r = n then gn else G r, 0, none⟩) 2 2) = ((List.range n).map fun r => Value.slice (some ⟨G r, 0, none⟩) 2 2) ++ [.slice (some ⟨gn, 0, none⟩) 2 2] := by
      rw [List.range_succ, List.map_append]
      congr 1
      · exact List.map_congr_left fun r hr => by rw [if_neg (by have := List.mem_range.1 hr; omega)]
      · simp
    rw [e]
    exact ho
  · by_cases e : r = n
    · subst e
      rw [if_pos rfl]
      exact ⟨keep hx, by omega⟩
    · rw [if_neg e]
      exact ⟨keep (h2.inn r (by omega)).1, (h2.inn r (by omega)).2⟩
  · rw [if_neg (by omega : r ≠ n)]
    by_cases e : s = n
    · rw [if_pos e]
      intro q
      have := lt_of_heap (h.inn r (by omega)).1
      omega
    · rw [if_neg e]
      exact h.apart r s hrs (by omega)
theorem R2.set {w : World} {B : Nat} {v : Value} {n : Nat} {d : Nat → Nat → Int} {G : Nat → Nat} (h : R2 w B v n d G) {b : Nat} (hb : b < B) (o : Nat) (u : Value) : R2 (w.setCell ⟨b, o, none⟩ u) B v n d G :=
  ⟨ownsRow_setCell_other (a := ⟨b, o, none⟩) h.out (fun e => by have := (h.out.lt _ e).1; change B ≤ b at this; omega) _, fun r hr => ⟨Bw.blk_but (h.inn r hr).1 ((Bw.But.refl b w).setCell o u) (by have := (h.inn r hr).2; omega), (h.inn r hr).2⟩, h.apart⟩
theorem R2.drew {w : World} {B : Nat} {v : Value} {n : Nat} {d : Nat → Nat → Int} {G : Nat → Nat} (h : R2 w B v n d G) : R2 w.drew B v n d G := ⟨h.out, h.inn, h.apart⟩
/-- As a law reads them. -/
theorem R2.rows {w : World} {B : Nat} {v : Value} {n : Nat} {d : Nat → Nat → Int} {G : Nat → Nat} (h : R2 w B v n d G) : ∃ A cap, v = .slice A n cap ∧ Ss2.RowsO w B A n (fun r => some ⟨G r, 0, none⟩) (fun _ => 2) (fun _ => 2) d ∧ ∀ b o, A = some ⟨b, o, none⟩ → B ≤ b := by
  have inn : ∀ i, i < n → Own w B (some ⟨G i, 0, none⟩) 2 (d i) := fun i hi _ => by
    obtain ⟨h1, h2⟩ := h.inn i hi
    refine ⟨G i, 0, rfl, h2, lt_of_heap h1, fun q hq => ?_, blk_free h1⟩
    rw [Nat.zero_add]
    obtain ⟨c0, c1⟩ := Ba.blk2 h1
    obtain rfl | rfl : q = 0 ∨ q = 1 := by omega
    · exact c0
    · exact c1
  have ap : ∀ i j, i < n → j < n → i ≠ j → 0 < 2 → 0 < 2 → ∀ b o b' o', (some ⟨G i, 0, none⟩ : Option Addr) = some ⟨b, o, none⟩ → (some ⟨G j, 0, none⟩ : Option Addr) = some ⟨b', o', none⟩ → b' ≠ b := fun i j hi hj hne _ _ b o b' o' e1 e2 => by
    injection e1 with e1; injection e1 with e1
    injection e2 with e2; injection e2 with e2
    rcases Nat.lt_or_gt_of_ne hne with q | q
    · have := h.apart i j q hj; omega
    · have := h.apart j i q hi; omega
  rcases h.out.2 with ⟨hv, h0⟩ | ⟨g, cap, cur, hv, hbg, hh, _⟩
  · exact ⟨none, 0, by rw [hv, h0], ⟨fun hn => by omega, inn, ap, fun i hi => by omega⟩, fun b o e => by cases e⟩
  · refine ⟨some ⟨g, 0, none⟩, cap, hv, ⟨fun hn => ⟨g, 0, rfl, lt_of_heap hh, fun i hi => ?_⟩, inn, ap, fun i hi _ b o b' o' e1 e2 => ?_⟩, fun b o e => by injection e with e; injection e with e; omega⟩
    · subst hv
      rw [Nat.zero_add]
      refine (h.out.cellAt i (by omega)).trans ?_
      simp [hi]
    · injection e1 with e1; injection e1 with e1
      injection e2 with e2; injection e2 with e2
      obtain ⟨h1, _⟩ := h.inn i hi
      intro q
      rw [e2, q, ← e1] at hh
      rw [h1] at hh
      injection hh with hh
      injection hh with _ ht
      exact ty_ne ht
theorem info_rows : (Try.prog.info? 30).map (fun i => (i.zero, i.size, i.bytes)) = some (some (.slice none 0 0), 1, 24) := by kernel_rfl
/-- What both functions give: rows of two, and a code. -/
def Post2 (m : Nat) (d : Nat → Nat → Int) (c : Int) (w : World) (e : Ending) (w' : World) : Prop := ∃ A cap As cs, e = .returned (.tuple #[.slice A m cap, .int .i64 c]) ∧ Hid (Ss2.RowsO w' w.heap.size A m As (fun _ => 2) cs d ∧ ∀ b o, A = some ⟨b, o, none⟩ → w.heap.size ≤ b) ∧ Below w.heap.size w w'
theorem rows_later {w : World} {B B' : Nat} {A : Option Addr} {n : Nat} {As : Nat → Option Addr} {ms cs : Nat → Nat} {ds : Nat → Nat → Int} (h : Ss2.RowsO w B A n As ms cs ds) (hB : B' ≤ B) : Ss2.RowsO w B' A n As ms cs ds := ⟨h.out, fun i hi => Bw.own_later (h.inn i hi) hB, h.apart, h.outer⟩
theorem post_none {w w' : World} {c : Int} (hb : Below w.heap.size w w') (d : Nat → Nat → Int) : Post2 0 d c w (.returned (.tuple #[.slice none 0 0, .int .i64 c])) w' :=
  ⟨none, 0, fun _ => none, fun _ => 0, rfl, Lib.hid ⟨⟨fun h => absurd h (by omega), fun i hi => by omega, fun i j hi => by omega, fun i hi => by omega⟩, fun b o e => by cases e⟩, hb⟩
theorem post_rows {w w1 w' : World} {v : Value} {n : Nat} {d : Nat → Nat → Int} {G : Nat → Nat} (h : R2 w' w1.heap.size v n d G) (h0 : Below w.heap.size w w1) (hb : Below w.heap.size w w') : Post2 n d 0 w (.returned (.tuple #[v, .int .i64 0])) w' := by
  obtain ⟨A, cap, rfl, h1, h2⟩ := h.rows
  have := h0.size
  exact ⟨A, cap, _, _, rfl, Lib.hid ⟨rows_later h1 this, fun b o e => by have := h2 b o e; omega⟩, hb⟩
end Go.Proofs.Ytgclhkiiaclkgab.N4
