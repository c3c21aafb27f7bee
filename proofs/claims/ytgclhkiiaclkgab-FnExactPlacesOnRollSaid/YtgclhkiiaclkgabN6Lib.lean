/- Rows of two numbers as a law reads, compares and marks them (chapter 11's places). -/
import Derived.Test.YtgclhkiiaclkgabN4Lib
namespace Go.Proofs.Ytgclhkiiaclkgab.N6
set_option linter.unusedVariables false
open Go.RowKit Ft Is Ge Qb N4
open Bw (But)

/-- Rows, to be read, below B. -/
def RN (w : World) (B : Nat) (A : Option Addr) (m : Nat) (d : Nat → Nat → Int) : Prop := ∃ (As : Nat → Option Addr) (cs : Nat → Nat), (0 < m → ∃ b off, A = some ⟨b, off, none⟩ ∧ b < B ∧ ∀ i, i < m → w.cell? ⟨b, off + i, none⟩ = some (.slice (As i) 2 (cs i))) ∧ ∀ i, i < m → Nums w B (As i) 2 (d i)
theorem RN.below {w w' : World} {B B' m : Nat} {A : Option Addr} {d : Nat → Nat → Int} (h : RN w B A m d) (hb : Below B' w w') (hB : B ≤ B') : RN w' B A m d := by
  obtain ⟨As, cs, h1, h2⟩ := h
  refine ⟨As, cs, fun hm => ?_, fun i hi => (h2 i hi).below hb hB⟩
  obtain ⟨b, off, e, hl, hc⟩ := h1 hm
  exact ⟨b, off, e, hl, fun i hi => (hb.cell (p := ⟨b, off + i, none⟩) (by show b < B'; omega)).trans (hc i hi)⟩
theorem RN.more {w : World} {B B' m : Nat} {A : Option Addr} {d : Nat → Nat → Int} (h : RN w B A m d) (hB : B ≤ B') : RN w B' A m d := by
  obtain ⟨As, cs, h1, h2⟩ := h
  refine ⟨As, cs, fun hm => ?_, fun i hi => (h2 i hi).more hB⟩
  obtain ⟨b, off, e, hl, hc⟩ := h1 hm
  exact ⟨b, off, e, by omega, hc⟩
theorem rn_but {g B m : Nat} {w w' : World} {A : Option Addr} {d : Nat → Nat → Int} (ho : RN w B A m d) (h : But g w w') (hg : B ≤ g) : RN w' B A m d := by
  obtain ⟨As, cs, h1, h2⟩ := ho
  refine ⟨As, cs, fun hm => ?_, fun i hi => Bw.nums_but (h2 i hi) h hg⟩
  obtain ⟨b, off, e, hl, hc⟩ := h1 hm
  exact ⟨b, off, e, hl, fun i hi => h.cell (by omega) (hc i hi)⟩
theorem RN.rows {w : World} {m : Nat} {A : Option Addr} {d : Nat → Nat → Int} (h : RN w w.heap.size A m d) : ∃ As cs, Ss2.RowsR w A m As (fun _ => 2) cs d := by
  obtain ⟨As, cs, h1, h2⟩ := h
  exact ⟨As, cs, h1, h2⟩
/-- Rows of the call's own. -/
def RO (w : World) (B : Nat) (A : Option Addr) (m : Nat) (d : Nat → Nat → Int) : Prop := ∃ (As : Nat → Option Addr) (cs : Nat → Nat), Ss2.RowsO w B A m As (fun _ => 2) cs d ∧ ∀ b o, A = some ⟨b, o, none⟩ → B ≤ b
theorem RO.below {w w' : World} {B m : Nat} {A : Option Addr} {d : Nat → Nat → Int} (h : RO w B A m d) (hb : Below w.heap.size w w') : RO w' B A m d := by
  obtain ⟨As, cs, h1, h2⟩ := h
  exact ⟨As, cs, h1.below hb, h2⟩
theorem RO.nums {w : World} {B m : Nat} {A : Option Addr} {d : Nat → Nat → Int} (h : RO w B A m d) : RN w w.heap.size A m d := by
  obtain ⟨As, cs, h1, h2⟩ := h
  exact ⟨As, cs, h1.rows.out, h1.rows.inn⟩
theorem ro_but {g B m : Nat} {w w' : World} {A : Option Addr} {d : Nat → Nat → Int} (ho : RO w B A m d) (h : But g w w') (hg : g < B) : RO w' B A m d := by
  obtain ⟨As, cs, h1, h2⟩ := ho
  refine ⟨As, cs, ⟨fun hm => ?_, fun i hi => Bw.own_but (h1.inn i hi) h hg, h1.apart, h1.outer⟩, h2⟩
  obtain ⟨b, off, e, hl, hc⟩ := h1.out hm
  have := h2 b off e
  exact ⟨b, off, e, Nat.lt_of_lt_of_le hl h.size, fun i hi => h.cell (by omega) (hc i hi)⟩
theorem ro_later {w' : World} {B B' m : Nat} {A : Option Addr} {d : Nat → Nat → Int} (h : RO w' B' A m d) (hs : B ≤ B') : RO w' B A m d := by
  obtain ⟨As, cs, h1, h2⟩ := h
  exact ⟨As, cs, rows_later h1 hs, fun b o e => by have := h2 b o e; omega⟩
theorem eq_rows (A1 A2 : Option Addr) (m c1 c2 : Nat) (d : Nat → Nat → Int) (hm : m ≤ 80) (w : World) (h1 : RN w w.heap.size A1 m d) (h2 : RN w w.heap.size A2 m d) :
    Calls Try.prog 45 #[.slice A1 m c1, .slice A2 m c2] w fun e w' => e = .returned (.bool true) ∧ Below w.heap.size w w' := by
  obtain ⟨a1, b1, r1⟩ := h1.rows
  obtain ⟨a2, b2, r2⟩ := h2.rows
  exact Ss2.eq_ss A1 A2 m c1 c2 a1 a2 (fun _ => 2) b1 b2 d (by omega) (fun i hi => by omega) w r1 r2
/-- The marks of rows of two. -/
def mkd (i : Nat) : Nat → Int := mk (Ss2.st 1 (fun _ => 2) i)
theorem st2 : ∀ i, Ss2.st 1 (fun _ => 2) i = 1 + 2 * (i : Int)
  | 0 => rfl
  | i + 1 => by rw [Ss2.st, st2 i]; omega
theorem mark_rows (A : Option Addr) (m c : Nat) (d : Nat → Nat → Int) (hm : m ≤ 80) (B : Nat) (w : World) (hB : B ≤ w.heap.size) (h : RO w B A m d) :
    Calls Try.prog 46 #[.slice A m c, .int .i64 1] w fun e w' => e = .returned (.int .i64 (Ss2.st 1 (fun _ => 2) m)) ∧ RO w' B A m mkd ∧ Below B w w' := by
  obtain ⟨As, cs, h1, h2⟩ := h
  refine (Ss2.mark_ss A m c As (fun _ => 2) cs d 1 (by omega) (fun i hi => by omega) (fun i hi => by rw [st2]; omega) B w hB h1).mono ?_
  rintro e w' ⟨he, hr, hb⟩
  refine ⟨he, ⟨As, cs, ⟨hr.out, fun i hi => ?_, hr.apart, hr.outer⟩, h2⟩, hb⟩
  have := hr.inn i hi
  unfold Ss2.dm at this
  rw [if_pos hi] at this
  exact this
theorem held_rows (A : Option Addr) (m c : Nat) (hm : m ≤ 80) (w : World) (h : RN w w.heap.size A m mkd) :
    Calls Try.prog 47 #[.slice A m c, .int .i64 1] w fun e w' => e = .returned (.int .i64 (Ss2.st 1 (fun _ => 2) m)) ∧ Below w.heap.size w w' := by
  obtain ⟨As, cs, r⟩ := h.rows
  refine (Ss2.held_ss A m c As (fun _ => 2) cs 1 (by omega) (fun i hi => by omega) (fun i hi => by rw [st2]; omega) w r).mono ?_
  rintro e w' ⟨he, rfl⟩
  exact ⟨he, Below.refl _ _⟩
/-- What both functions give. -/
def Post (m : Nat) (d : Nat → Nat → Int) (c : Int) (w : World) (e : Ending) (w' : World) : Prop := ∃ A cap, e = .returned (.tuple #[.slice A m cap, .int .i64 c]) ∧ Hid (RO w' w.heap.size A m d) ∧ Below w.heap.size w w'
theorem post_of {m : Nat} {d : Nat → Nat → Int} {c : Int} {w w' : World} {e : Ending} (h : Post2 m d c w e w') : Post m d c w e w' := by
  obtain ⟨A, cap, As, cs, e1, h1, h2⟩ := h
  exact ⟨A, cap, e1, Lib.hid ⟨As, cs, h1.out⟩, h2⟩
end Go.Proofs.Ytgclhkiiaclkgab.N6
