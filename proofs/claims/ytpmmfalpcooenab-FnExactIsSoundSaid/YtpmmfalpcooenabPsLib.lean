/- Patterns: the law's marks in a copy; blocks from lo to hi alone have been written. -/
import Derived.Test.YtpmmfalpcooenabPtLib
import Derived.Test.YtpmmfalpcooenabMtLib
namespace Go.Proofs.Ytpmmfalpcooenab.Ps
set_option linter.unusedVariables false
open Go.RowKit Ft Is Ge Qb Pt Bw

/-- Blocks from lo to hi alone have been written. -/
structure Span (lo hi : Nat) (w w' : World) : Prop where
  os : w'.os = w.os
  tape : w'.tape = w.tape
  output : w'.output = w.output
  size : w.heap.size ≤ w'.heap.size
  block : ∀ k, k < w.heap.size → (k < lo ∨ hi ≤ k) → w'.heap[k]? = w.heap[k]?
theorem Span.refl (lo hi : Nat) (w : World) : Span lo hi w w := ⟨rfl, rfl, rfl, Nat.le_refl _, fun _ _ _ => rfl⟩
theorem Span.trans {lo hi : Nat} {a b c : World} (h : Span lo hi a b) (k : Span lo hi b c) : Span lo hi a c :=
  ⟨k.os.trans h.os, k.tape.trans h.tape, k.output.trans h.output, Nat.le_trans h.size k.size, fun j hj hn => (k.block j (Nat.lt_of_lt_of_le hj h.size) hn).trans (h.block j hj hn)⟩
theorem Span.of_below {lo hi : Nat} {w w' : World} (h : Below w.heap.size w w') : Span lo hi w w' := ⟨h.os, h.tape, h.output, h.size, fun k hk _ => h.block k hk⟩
theorem Span.of_but {lo hi b : Nat} {w w' : World} (h : But b w w') (h1 : lo ≤ b) (h2 : b < hi) : Span lo hi w w' := ⟨h.os, h.tape, h.output, h.size, fun k hk hn => h.block k hk (by omega)⟩
theorem Span.setCell {lo hi : Nat} {a w : World} (h : Span lo hi a w) {b o : Nat} (h1 : lo ≤ b) (h2 : b < hi) (u : Value) : Span lo hi a (w.setCell ⟨b, o, none⟩ u) :=
  ⟨h.os, h.tape, h.output, by simpa using h.size, fun k hk hn => (Below.heap_setCell _ _ _ _ (by show k ≠ b; omega)).trans (h.block k hk hn)⟩
theorem Span.below {lo hi B : Nat} {w w' : World} (h : Span lo hi w w') (hB : B ≤ lo) (hs : B ≤ w.heap.size) : Below B w w' := ⟨h.os, h.tape, h.output, h.size, fun k hk => h.block k (by omega) (by omega)⟩
theorem Span.cell {lo hi : Nat} {w w' : World} (h : Span lo hi w w') {b o : Nat} {v : Value} (hb : b < lo ∨ hi ≤ b) (hc : w.cell? ⟨b, o, none⟩ = some v) : w'.cell? ⟨b, o, none⟩ = some v :=
  (World.cell?_of_block (h.block b (World.block_lt_of_cell? w _ hc) hb)).trans hc
theorem Span.mono {lo hi hi' : Nat} {w w' : World} (h : Span lo hi w w') (hh : hi ≤ hi') : Span lo hi' w w' := ⟨h.os, h.tape, h.output, h.size, fun k hk hn => h.block k hk (by omega)⟩
theorem at_span {lo hi g n : Nat} {w w' : World} {f : Nat → Int} (ho : At w g n f) (h : Span lo hi w w') (hg : g < lo ∨ hi ≤ g) : At w' g n f :=
  ⟨Nat.lt_of_lt_of_le ho.1 h.size, fun i hi => h.cell hg (ho.2.1 i hi), fun i => (World.frozen?_of_block (a := ⟨g, i, none⟩) (h.block g ho.1 hg)).trans (ho.2.2 i)⟩
theorem blk_span {lo hi g : Nat} {w w' : World} {o : Obj} (ho : w.heap[g]? = some o) (h : Span lo hi w w') (hg : g < lo ∨ hi ≤ g) : w'.heap[g]? = some o := (h.block g (lt_of_heap ho) hg).trans ho
theorem own_span {lo hi B n : Nat} {w w' : World} {A : Option Addr} {f : Nat → Int} (ho : Own w B A n f) (h : Span lo hi w w') (hB : hi ≤ B) : Own w' B A n f := fun hn => by
  obtain ⟨b, off, rfl, hb, hlt, hc, hf⟩ := ho hn
  have hne : b < lo ∨ hi ≤ b := by omega
  exact ⟨b, off, rfl, hb, Nat.lt_of_lt_of_le hlt h.size, fun i hi => h.cell hne (hc i hi), fun i => (World.frozen?_of_block (a := ⟨b, i, none⟩) (h.block b hlt hne)).trans (hf i)⟩
theorem nums_span {lo hi B n : Nat} {w w' : World} {A : Option Addr} {f : Nat → Int} (ho : Nums w B A n f) (h : Span lo hi w w') (hB : B ≤ lo) : Nums w' B A n f := fun hn => by
  obtain ⟨b, off, rfl, hb, hc⟩ := ho hn
  exact ⟨b, off, rfl, hb, fun i hi => h.cell (.inl (by omega)) (hc i hi)⟩
theorem at_but' {g b n : Nat} {w w' : World} {f : Nat → Int} (ho : At w g n f) (h : But b w w') (hg : g ≠ b) : At w' g n f :=
  ⟨Nat.lt_of_lt_of_le ho.1 h.size, fun i hi => h.cell hg (ho.2.1 i hi), fun i => (World.frozen?_of_block (a := ⟨g, i, none⟩) (h.block g ho.1 hg)).trans (ho.2.2 i)⟩
end Go.Proofs.Ytpmmfalpcooenab.Ps
