/- OpenEdges: both functions. -/
import Derived.Test.YtpmmfalpcooenabVeLib
import Derived.Test.YtpmmfalpcooenabSslLib
import Derived.Deep.AppendLies
namespace Go.Proofs.Ytpmmfalpcooenab.Vp
set_option linter.unusedVariables false
open Go.RowKit Go.Maps Ft Is Ge Qb Pt Pv Za Mm Zb Zc Zd Vq Sdq Sdu Uf Ug Uh Uk Uc Uq Ux Uy Vo

/-- What the rows hold. -/
def rd (l : List (Nat × Nat)) (r q : Nat) : Int := if q = 0 then ((l.getD r (0, 0)).1 : Int) else ((l.getD r (0, 0)).2 : Int)
theorem OM.rows {w : World} {B : Nat} {v : Value} {l : List (Nat × Nat)} {G : Nat → Nat} (h : OM w B v l G) : ∃ A cap, v = .slice A l.length cap ∧ Ss2.RowsO w B A l.length (fun r => some ⟨G r, 0, none⟩) (fun _ => 2) (fun _ => 2) (rd l) ∧ ∀ b o, A = some ⟨b, o, none⟩ → B ≤ b := by
  have inn : ∀ i, i < l.length → Own w B (some ⟨G i, 0, none⟩) 2 (rd l i) := fun i hi _ => by
    obtain ⟨h1, h2⟩ := h.inn i _ (List.getElem?_eq_getElem hi)
    refine ⟨G i, 0, rfl, h2, lt_of_heap h1, fun q hq => ?_, blk_free h1⟩
    have e : l.getD i (0, 0) = l[i] := by rw [List.getD_eq_getElem?_getD, List.getElem?_eq_getElem hi]; rfl
    unfold rd
    rw [e, Nat.zero_add]
    obtain ⟨c0, c1⟩ := Pt.blk2 h1
    obtain rfl | rfl : q = 0 ∨ q = 1 := by omega
    · exact c0
    · exact c1
  have ap : ∀ i j, i < l.length → j < l.length → i ≠ j → 0 < 2 → 0 < 2 → ∀ b o b' o', (some ⟨G i, 0, none⟩ : Option Addr) = some ⟨b, o, none⟩ → (some ⟨G j, 0, none⟩ : Option Addr) = some ⟨b', o', none⟩ → b' ≠ b := fun i j hi hj hne _ _ b o b' o' e1 e2 => by
    injection e1 with e1; injection e1 with e1
    injection e2 with e2; injection e2 with e2
    rcases Nat.lt_or_gt_of_ne hne with q | q
    · have := h.apart i j q hj; omega
    · have := h.apart j i q hi; omega
  rcases h.out.2 with ⟨hv, h0⟩ | ⟨g, cap, cur, hv, hbg, hh, _⟩
  · exact ⟨none, 0, by rw [hv, h0], ⟨fun hn => by omega, inn, ap, fun i hi => by omega⟩, fun b o e => by cases e⟩
  · refine ⟨some ⟨g, 0, none⟩, cap, hv, ⟨fun hn => ⟨g, 0, rfl, lt_of_heap hh, fun i hi => ?_⟩, inn, ap, fun i hi _ b o b' o' e1 e2 => ?_⟩, fun b o e => by injection e with e; injection e with e; omega⟩
    · subst hv
      rw [Nat.zero_add]
      refine (h.out.cellAt i (by omega)).trans ?_
      simp [hi]
    · injection e1 with e1; injection e1 with e1
      injection e2 with e2; injection e2 with e2
      obtain ⟨h1, _⟩ := h.inn i _ (List.getElem?_eq_getElem hi)
      intro q
      rw [e2, q, ← e1] at hh
      rw [h1] at hh
      injection hh with hh
      injection hh with _ ht
      exact ty_ne ht
/-- A new list of rows of two numbers, and a code. -/
def RowsAt (l : List (Nat × Nat)) (c : Int) (w : World) (e : Ending) (w' : World) : Prop := ∃ A cap As cs, e = .returned (.tuple #[.slice A l.length cap, .int .i64 c]) ∧ Hid (Ss2.RowsO w' w.heap.size A l.length As (fun _ => 2) cs (rd l) ∧ ∀ b o, A = some ⟨b, o, none⟩ → w.heap.size ≤ b) ∧ Below w.heap.size w w'
noncomputable def vL (n : Nat) (N : Nat → ByteArray) (ms : Nat → Nat) (ds : Nat → Nat → Int) (k : Nat) (S : Nat → Int) (o : Int) : List (Nat × Nat) := if tv (PatP n N ms ds k S o) = true then ol ms n S k (sumN ms n) else []
theorem vl_len (n : Nat) (N : Nat → ByteArray) (ms : Nat → Nat) (ds : Nat → Nat → Int) (k : Nat) (S : Nat → Int) (o : Int) : (vL n N ms ds k S o).length ≤ 80 := by
  unfold vL
  split
  · rename_i q
    obtain ⟨p1, p2, _⟩ := pat_in (tv_iff.1 q)
    have := sum_le (ms := ms) (p := n) (fun i hi => (p2 i hi).2)
    rw [ol_len]
    have := cc_le (opB ms n S k) (sumN ms n)
    omega
  · simp
theorem rows_later {w : World} {B B' : Nat} {A : Option Addr} {n : Nat} {As : Nat → Option Addr} {ms cs : Nat → Nat} {ds : Nat → Nat → Int} (h : Ss2.RowsO w B A n As ms cs ds) (hB : B' ≤ B) : Ss2.RowsO w B' A n As ms cs ds := ⟨h.out, fun i hi => Bw.own_later (h.inn i hi) hB, h.apart, h.outer⟩
theorem rows_none {w w' : World} {c : Int} (hb : Below w.heap.size w w') : RowsAt [] c w (.returned (.tuple #[.slice none 0 0, .int .i64 c])) w' :=
  ⟨none, 0, fun _ => none, fun _ => 0, rfl, Lib.hid ⟨⟨fun h => absurd h (Nat.not_lt_zero _), fun _ h => absurd h (Nat.not_lt_zero _), fun _ _ h => absurd h (Nat.not_lt_zero _), fun _ h => absurd h (Nat.not_lt_zero _)⟩, fun b o e => by cases e⟩, hb⟩
theorem rows_of {w w1 w' : World} {v : Value} {l : List (Nat × Nat)} {G : Nat → Nat} (h : OM w' w1.heap.size v l G) (h0 : Below w.heap.size w w1) (hb : Below w1.heap.size w1 w') : RowsAt l 0 w (.returned (.tuple #[v, .int .i64 0])) w' := by
  obtain ⟨A, cap, rfl, hr, hb2⟩ := OM.rows h
  exact ⟨A, cap, _, _, rfl, Lib.hid ⟨rows_later hr h0.size, fun b o e => Nat.le_trans h0.size (hb2 b o e)⟩, below_then h0 hb⟩
end Go.Proofs.Ytpmmfalpcooenab.Vp
