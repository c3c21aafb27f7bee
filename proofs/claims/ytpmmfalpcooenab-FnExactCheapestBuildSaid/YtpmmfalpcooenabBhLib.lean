/- The beginning of the best build: the program's function that calls itself and keeps what it has found. -/
import Derived.Test.YtpmmfalpcooenabBgLib
import Derived.Test.YtpmmfalpcooenabBwLib
namespace Go.Proofs.Ytpmmfalpcooenab.Bh
open Go.RowKit Go.Maps Ft Is Ge Qb Ly Kn Mm Bg
open Bw (But)

/-- Layers, prices and kinds. -/
structure Par (x p : Nat → Int) (n : Nat) : Prop where
  lay : ∀ i, i < n → 1 ≤ x i ∧ x i ≤ 200
  pr : ∀ i, i < n → 0 ≤ p i ∧ p i ≤ 1000
  n8 : n ≤ 8
/-- Price and number together. -/
abbrev wt (p : Nat → Int) : Nat → Int := fun i => 2000 * p i + 1
theorem Par.ok {x p : Nat → Int} {n : Nat} (h : Par x p n) : Lay x (wt p) n := ⟨fun i hi => (h.lay i hi).1, fun i hi => by have := (h.pr i hi).1; show 1 ≤ 2000 * p i + 1; omega⟩
def oP (p : Nat → Int) : Option (List Nat) → Int
  | none => 0
  | some l => sm p l
def oL : Option (List Nat) → Int
  | none => 0
  | some l => (l.length : Int)
def oX (x : Nat → Int) : Option (List Nat) → Int
  | some (i :: _) => x i
  | _ => 0
def oE : Option (List Nat) → Bool
  | none => false
  | some _ => true
abbrev bgA (x p : Nat → Int) (o : Option (List Nat)) : Array Value := #[.int .i64 (oP p o), .int .i64 (oL o), .int .i64 (oX x o), .bool (oE o)]
abbrev zeA : Array Value := #[.int .i64 0, .int .i64 0, .int .i64 0, .bool false]
theorem sm_bd {p : Nat → Int} {n : Nat} (h : ∀ i, i < n → 0 ≤ p i ∧ p i ≤ 1000) : ∀ l : List Nat, (∀ i ∈ l, i < n) → 0 ≤ sm p l ∧ sm p l ≤ 1000 * (l.length : Int)
  | [], _ => by simp [sm]
  | i :: l, hl => by
    have h1 := h i (hl i (by simp))
    have h2 := sm_bd h l (fun j hj => hl j (by simp [hj]))
    simp only [sm, List.length_cons]
    omega
theorem ok_bd {x p : Nat → Int} {n : Nat} (P : Par x p n) {lo hi : Int} (hhi : hi ≤ 1000) {l : List Nat} (h : Ok x n lo hi l) : (l.length : Int) ≤ 1000 ∧ 0 ≤ sm p l ∧ sm p l ≤ 1000000 := by
  have h1 := sm_len (m := n) (fun i hi => (P.lay i hi).1) l h.mem
  have h2 := h.hi
  have h3 := sm_bd P.pr l h.mem
  omega
theorem o_bd {x p : Nat → Int} {n : Nat} (P : Par x p n) {s lo : Int} (h : lo + s ≤ 1000) (o : Option (List Nat)) (ho : ∀ l, o = some l → Ok x n lo (lo + s) l) : 0 ≤ oP p o ∧ oP p o ≤ 1000000 ∧ 0 ≤ oL o ∧ oL o ≤ 1000 := by
  cases o with
  | none => simp [oP, oL]
  | some l => have := ok_bd P h (ho l rfl); simp only [oP, oL]; omega
/-- One more kind: the program's test. -/
theorem comb_none (w : Nat → Int) (i : Nat) (o : Option (List Nat)) : comb w i o none = o := rfl
theorem comb_first (w : Nat → Int) (i : Nat) (l : List Nat) : comb w i none (some l) = some (i :: l) := rfl
theorem comb_yes {p : Nat → Int} {i : Nat} {l k : List Nat} (h : 2000 * (sm p l + p i) + ((l.length : Int) + 1) ≤ 2000 * sm p k + (k.length : Int)) : comb (wt p) i (some k) (some l) = some (i :: l) := by
  show (if sm (wt p) (i :: l) ≤ sm (wt p) k then some (i :: l) else some k) = _
  rw [if_pos]
  rw [sm_mix, sm_mix]
  simp only [sm, List.length_cons]
  omega
theorem comb_no {p : Nat → Int} {i : Nat} {l k : List Nat} (h : ¬ 2000 * (sm p l + p i) + ((l.length : Int) + 1) ≤ 2000 * sm p k + (k.length : Int)) : comb (wt p) i (some k) (some l) = some k := by
  show (if sm (wt p) (i :: l) ≤ sm (wt p) k then some (i :: l) else some k) = _
  rw [if_neg]
  rw [sm_mix, sm_mix]
  simp only [sm, List.length_cons]
  omega
theorem key64 {z : Int} (h0 : -1000000 ≤ z) (h1 : z ≤ 1000000) : keyOf Try.prog 2 (.int .i64 z) = some (.int .i64 z) := keyOf_int_mk Try.underlying2 (WalkArith.wf_i64 (by omega))
theorem law64 : Keyed Try.prog 2 := int_keyed Try.underlying2
theorem zeroG (w : World) : (zeroValue 115).run Try.prog w = .ok (.agg zeA) w := by kernel_rfl

/-- The map holds beginnings alone. -/
def Good (x p : Nat → Int) (n : Nat) (sl : Int) (g : Lit → Option Value) : Prop := ∀ l v, g l = some v → ∃ z : Nat, z ≤ 1000 ∧ l = .int .i64 (z : Int) ∧ v = .agg (bgA x p (B x (wt p) n sl z))
theorem good_upd {x p : Nat → Int} {n : Nat} {sl : Int} {g : Lit → Option Value} (hG : Good x p n sl g) {z : Nat} (hz : z ≤ 1000) : Good x p n sl (upd g (.int .i64 (z : Int)) (.agg (bgA x p (B x (wt p) n sl z)))) := fun l v h => by
  by_cases e : l = .int .i64 (z : Int)
  · subst e
    rw [upd_same] at h
    cases h
    exact ⟨z, hz, rfl, rfl⟩
  · rw [upd_other _ _ e] at h
    exact hG l v h
theorem good_at {x p : Nat → Int} {n : Nat} {sl : Int} {g : Lit → Option Value} (hG : Good x p n sl g) {z : Nat} {v : Value} (h : g (.int .i64 (z : Int)) = some v) : v = .agg (bgA x p (B x (wt p) n sl z)) := by
  obtain ⟨z', _, e, rfl⟩ := hG _ _ h
  have : z = z' := by
    have := (Lit.int.inj e).2
    omega
  rw [this]
theorem good_key {x p : Nat → Int} {n : Nat} {sl : Int} {g : Lit → Option Value} (hG : Good x p n sl g) (l : Lit) (h : (g l).isSome = true) : ∃ j : Nat, j < 1001 ∧ l = .int .i64 (j : Int) := by
  obtain ⟨v, hv⟩ := Option.isSome_iff_exists.1 h
  obtain ⟨z, h1, h2, _⟩ := hG l v hv
  exact ⟨z, by omega, h2⟩
/-- What holds while beginnings are looked for. -/
structure BInv (w0 : World) (L gs gm gl gb gp b : Nat) (A Ap : Option Addr) (n c cp : Nat) (x p : Nat → Int) (sl : Int) (W : World) : Prop where
  below : Below w0.heap.size w0 W
  bL : w0.heap.size ≤ L
  LW : L ≤ W.heap.size
  hs : W.heap[gs]? = some (.cells #[.int .i64 sl] 2 (0, 0))
  hm : W.heap[gm]? = some (.cells #[.map (some b)] 146 (0, 0))
  hl : W.heap[gl]? = some (.cells #[.slice A n c] 22 (0, 0))
  hb : W.heap[gb]? = some (.cells #[.func (.func 120) #[] #[.pointer (some ⟨gs, 0, none⟩), .pointer (some ⟨gm, 0, none⟩), .pointer (some ⟨gl, 0, none⟩), .pointer (some ⟨gb, 0, none⟩), .pointer (some ⟨gp, 0, none⟩)]] 105 (0, 0))
  hp : W.heap[gp]? = some (.cells #[.slice Ap n cp] 22 (0, 0))
  lts : gs < L
  ltm : gm < L
  ltl : gl < L
  ltb : gb < L
  ltp : gp < L
  ltq : b < L
  bB : w0.heap.size ≤ b
  nums : Nums W w0.heap.size A n x
  prc : Nums W w0.heap.size Ap n p
  map : ∃ g, MapIs Try.prog 2 W b g ∧ Good x p n sl g
section
variable {w0 : World} {L gs gm gl gb gp b : Nat} {A Ap : Option Addr} {n c cp : Nat} {x p : Nat → Int} {sl : Int} {W W' : World}
theorem BInv.touch (h : BInv w0 L gs gm gl gb gp b A Ap n c cp x p sl W) (hb : Below L W W') : BInv w0 L gs gm gl gb gp b A Ap n c cp x p sl W' :=
  ⟨h.below.trans (hb.mono h.bL), h.bL, Nat.le_trans h.LW hb.size, (hb.block _ h.lts).trans h.hs, (hb.block _ h.ltm).trans h.hm, (hb.block _ h.ltl).trans h.hl, (hb.block _ h.ltb).trans h.hb, (hb.block _ h.ltp).trans h.hp,
    h.lts, h.ltm, h.ltl, h.ltb, h.ltp, h.ltq, h.bB, h.nums.below hb h.bL, h.prc.below hb h.bL, by
      obtain ⟨g, hM, hG⟩ := h.map
      exact ⟨g, hM.of_block (hb.block _ h.ltq), hG⟩⟩
theorem BInv.ne (h : BInv w0 L gs gm gl gb gp b A Ap n c cp x p sl W) {g : Nat} {cs : Array Value} {t : TypeId} (hg : W.heap[g]? = some (.cells cs t (0, 0))) : b ≠ g := fun e => by
  obtain ⟨_, ⟨D, ⟨es, clock, hb, _⟩, _⟩, _⟩ := h.map
  rw [e, hg] at hb
  cases hb
theorem BInv.store (h : BInv w0 L gs gm gl gb gp b A Ap n c cp x p sl W) {g' : Lit → Option Value} (hm : MapIs Try.prog 2 W' b g') (hG : Good x p n sl g') (hg : W.grownBy W' (some b)) : BInv w0 L gs gm gl gb gp b A Ap n c cp x p sl W' := by
  have hb : Below w0.heap.size W W' := (Below.refl _ _).grown hg h.below.size (fun k hk => by cases hk; exact h.bB)
  exact ⟨h.below.trans hb, h.bL, Nat.le_trans h.LW hg.size,
    (hg.block _ (lt_of_heap h.hs) (by intro e; cases e; exact h.ne h.hs rfl)).trans h.hs, (hg.block _ (lt_of_heap h.hm) (by intro e; cases e; exact h.ne h.hm rfl)).trans h.hm, (hg.block _ (lt_of_heap h.hl) (by intro e; cases e; exact h.ne h.hl rfl)).trans h.hl,
    (hg.block _ (lt_of_heap h.hb) (by intro e; cases e; exact h.ne h.hb rfl)).trans h.hb, (hg.block _ (lt_of_heap h.hp) (by intro e; cases e; exact h.ne h.hp rfl)).trans h.hp,
    h.lts, h.ltm, h.ltl, h.ltb, h.ltp, h.ltq, h.bB, h.nums.below hb (Nat.le_refl _), h.prc.below hb (Nat.le_refl _), ⟨g', hm, hG⟩⟩
end
theorem but_grown {b : Nat} {w W W' : World} (h : But b w W) (hg : W.grownBy W' (some b)) : But b w W' :=
  h.trans ⟨hg.os, hg.tape, hg.output, hg.size, fun k hk hne => hg.block k hk (by intro e; cases e; exact hne rfl)⟩
theorem but_set {b g o : Nat} {u : Value} {w W : World} (h : But b w W) (hg : w.heap.size ≤ g) : But b w (W.setCell ⟨g, o, none⟩ u) :=
  ⟨h.os, h.tape, h.output, by simpa using h.size, fun k hk hne => (Below.heap_setCell _ _ _ _ (show k ≠ g by omega)).trans (h.block k hk hne)⟩
theorem but_below {b : Nat} {w W W' : World} (h : But b w W) (hb : Below W.heap.size W W') : But b w W' := h.trans (But.of_below hb)
theorem blk_but {b k : Nat} {w W : World} {o : Obj} (h : But b w W) (ho : w.heap[k]? = some o) (hk : k ≠ b) : W.heap[k]? = some o := (h.block k (lt_of_heap ho) hk).trans ho
end Go.Proofs.Ytpmmfalpcooenab.Bh
