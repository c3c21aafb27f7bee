/- The program's union of places: leaders, joins, first ones. -/
import Derived.Test.YtpmmfalpcooenabUgLib
import Derived.Test.YtpmmfalpcooenabUcLib
import Derived.Deep.RegionHeld3
import Derived.Laws.StructEq
import Derived.RegionTactic
namespace Go.Proofs.Ytpmmfalpcooenab.Ud
set_option linter.unusedVariables false
open Go.RowKit Go.Maps Ft Is Ge Qb Pt Pv Za Mm Zb Uf Ug Uc

abbrev vE (x : Nat) : Value := .agg #[.int .i64 ((x : Int) / 8), .int .i64 ((x : Int) % 8)]
theorem c8 (x : Nat) : ((x / 8 : Nat) : Int) = (x : Int) / 8 ∧ ((x % 8 : Nat) : Int) = (x : Int) % 8 := by omega
theorem wf8 {x : Nat} (h : x < 80) : (Lit.int .i64 (x : Int)).wf = true := WalkArith.wf_i64 (by omega)
theorem keyE {x : Nat} (h : x < 80) : keyOf Try.prog 171 (vE x) = some (keyN x) := by
  have h1 : x / 8 < 80 := by omega
  have h2 : x % 8 < 80 := by omega
  have := key_ed (wf8 h1) (wf8 h2)
  rw [(c8 x).1, (c8 x).2] at this
  unfold keyN ekx
  rw [(c8 x).1, (c8 x).2]
  exact this
theorem injE (x y : Nat) (hx : x < 80) (hy : y < 80) (h : keyN x = keyN y) : x = y := by
  have a1 : x / 8 < 80 := by omega
  have a2 : x % 8 < 80 := by omega
  have b1 : y / 8 < 80 := by omega
  have b2 : y % 8 < 80 := by omega
  obtain ⟨h1, h2⟩ := ek_inj (wf8 a1) (wf8 a2) (wf8 b1) (wf8 b2) h
  omega
theorem zeroE (w : World) : (zeroValue 171).run Try.prog w = .ok (vE 0) w := by kernel_rfl
abbrev StE (w : World) (b : Nat) (l : Nat → Nat) : Prop := Sta Try.prog 171 vE keyN 80 w b l
abbrev boxE (x : Nat) : Obj := .cells #[.int .i64 ((x : Int) / 8), .int .i64 ((x : Int) % 8)] 171
def rdE (w : World) (b : Nat) : Nat := 8 * (intOf ((w.cell? ⟨b, 0, none⟩).getD undef)).toNat + (intOf ((w.cell? ⟨b, 1, none⟩).getD undef)).toNat
theorem rdE_of {w : World} {b z : Nat} (h : w.heap[b]? = some (boxE z)) : rdE w b = z := by
  obtain ⟨h0, h1⟩ := Pt.blk2 h
  unfold rdE
  rw [h0, h1]
  show 8 * ((z : Int) / 8).toNat + ((z : Int) % 8).toNat = z
  omega
theorem heap_set2 {w : World} {g : Nat} {t : TypeId} {a0 a1 : Value} (h : w.heap[g]? = some (.cells #[a0, a1] t (0, 0))) (u v : Value) : ((w.setCell ⟨g, 0, none⟩ u).setCell ⟨g, 1, none⟩ v).heap[g]? = some (.cells #[u, v] t (0, 0)) := by
  simp [World.setCell, Array.getElem?_modify, h]
/-- Two boxes are written. -/
theorem boxE_two {w : World} {p q x y : Nat} (hp : w.heap[p]? = some (boxE x)) (hq : w.heap[q]? = some (boxE y)) (hne : p ≠ q) (a c : Nat) :
    ((((w.setCell ⟨p, 0, none⟩ (.int .i64 ((a : Int) / 8))).setCell ⟨p, 1, none⟩ (.int .i64 ((a : Int) % 8))).setCell ⟨q, 0, none⟩ (.int .i64 ((c : Int) / 8))).setCell ⟨q, 1, none⟩ (.int .i64 ((c : Int) % 8))).heap[p]? = some (boxE a)
    ∧ ((((w.setCell ⟨p, 0, none⟩ (.int .i64 ((a : Int) / 8))).setCell ⟨p, 1, none⟩ (.int .i64 ((a : Int) % 8))).setCell ⟨q, 0, none⟩ (.int .i64 ((c : Int) / 8))).setCell ⟨q, 1, none⟩ (.int .i64 ((c : Int) % 8))).heap[q]? = some (boxE c) := by
  refine ⟨?_, ?_⟩
  · rw [Below.heap_setCell _ _ _ _ (by exact hne), Below.heap_setCell _ _ _ _ (by exact hne)]
    exact heap_set2 hp _ _
  · refine heap_set2 (a0 := .int .i64 ((y : Int) / 8)) (a1 := .int .i64 ((y : Int) % 8)) ?_ _ _
    rw [Below.heap_setCell _ _ _ _ (by exact Ne.symm hne), Below.heap_setCell _ _ _ _ (by exact Ne.symm hne)]
    exact hq
theorem guardE : Try.prog.eqGuardType Try.prog.depth 171 = false := by kernel_rfl
set_option maxHeartbeats 1000000 in
theorem neqE (a0 a1 b0 b1 : Int) (w : World) : (binOp .neq 171 (.agg #[.int .i64 a0, .int .i64 a1]) (.agg #[.int .i64 b0, .int .i64 b1])).run Try.prog w = .ok (.bool (!(a0 == b0 && a1 == b1))) w := by
  have hS : Try.prog.underlying 171 = some (.struct (Try.prog.fieldsOf 171)) := by kernel_rfl
  have hp : Try.prog.stoodInHeld 171 = false := by kernel_rfl
  rw [run_neq_struct, show (10000 : Nat) = 9999 + 1 from rfl, run_equalIn_agg w 9999 171 _ _ hS hp]
  simp only [Program.fieldsOf, Try.underlying171]
  go_simp
  by_cases h1 : a0 = b0
  · by_cases h2 : a1 = b1 <;> simp [h1, h2]
  · simp [h1]
theorem boxE_keep {w w' : World} {q z : Nat} (h : w.heap[q]? = some (boxE z)) (hb : Below w.heap.size w w') : w'.cell? ⟨q, 0, none⟩ = some (.int .i64 ((z : Int) / 8)) ∧ w'.cell? ⟨q, 1, none⟩ = some (.int .i64 ((z : Int) % 8)) ∧ (∀ i, w'.frozen? ⟨q, i, none⟩ = false) ∧ q < w'.heap.size :=
  ⟨(Pt.blk2 (Ge.blk_keep hb h)).1, (Pt.blk2 (Ge.blk_keep hb h)).2, blk_free (Ge.blk_keep hb h), lt_of_heap (Ge.blk_keep hb h)⟩
/-- A list of places, to be read. -/
def PlR (w : World) (A : Option Addr) (n : Nat) (x : Nat → Nat) : Prop := 0 < n → ∃ b off, A = some ⟨b, off, none⟩ ∧ b < w.heap.size ∧ ∀ i, i < n → w.cell? ⟨b, off + i * 2, none⟩ = some (.int .i64 ((x i : Int) / 8)) ∧ w.cell? ⟨b, off + i * 2 + 1, none⟩ = some (.int .i64 ((x i : Int) % 8))
theorem PlR.below {w w' : World} {A : Option Addr} {n : Nat} {x : Nat → Nat} (h : PlR w A n x) (hb : Below w.heap.size w w') : PlR w' A n x := fun hn => by
  obtain ⟨b, off, e, h1, h2⟩ := h hn
  exact ⟨b, off, e, Nat.lt_of_lt_of_le h1 hb.size, fun i hi => ⟨(hb.cell (p := ⟨b, off + i * 2, none⟩) h1).trans (h2 i hi).1, (hb.cell (p := ⟨b, off + i * 2 + 1, none⟩) h1).trans (h2 i hi).2⟩⟩
/-- What the map of first indices holds. -/
def KnE (g : Lit → Option Value) (l x : Nat → Nat) (i : Nat) : Prop := (∀ z, z < 80 → g (keyN z) = (fo l x i z).map vI) ∧ ∀ q, (g q).isSome = true → ∃ z, z < 80 ∧ q = keyN z
theorem KnE.step_some {g : Lit → Option Value} {l x : Nat → Nat} {i : Nat} (h : KnE g l x i) {q : Nat} (hq : fo l x i (l (x i)) = some q) : KnE g l x (i + 1) :=
  ⟨fun z hz => by
    rw [h.1 z hz, fo]
    cases hf : fo l x i z with
    | some p => rfl
    | none =>
      dsimp only
      rw [if_neg fun e => by rw [← e, hq] at hf; cases hf], h.2⟩
theorem KnE.step_none {g : Lit → Option Value} {l x : Nat → Nat} {i : Nat} (h : KnE g l x i) (hl : l (x i) < 80) (hq : fo l x i (l (x i)) = none) : KnE (upd g (keyN (l (x i))) (vI i)) l x (i + 1) :=
  ⟨fun z hz => by
    rw [fo]
    by_cases e : z = l (x i)
    · subst e
      rw [upd_same, hq]
      dsimp only
      rw [if_pos rfl]; rfl
    · rw [upd_other _ _ (fun q => e (injE _ _ hz hl q)), h.1 z hz]
      cases hf : fo l x i z with
      | some p => rfl
      | none =>
        dsimp only
        rw [if_neg (Ne.symm e)], fun q hs => by
    by_cases e : q = keyN (l (x i))
    · exact ⟨_, hl, e⟩
    · rw [upd_other _ _ e] at hs; exact h.2 q hs⟩
end Go.Proofs.Ytpmmfalpcooenab.Ud
