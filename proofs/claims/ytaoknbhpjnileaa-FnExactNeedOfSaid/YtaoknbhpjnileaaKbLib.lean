/- The marks of lasts in a copy: block g alone is written. -/
import Derived.Test.YtaoknbhpjnileaaKsLib
namespace Go.Proofs.Ytaoknbhpjnileaa.Ks
open Go.RowKit Ft Ge Qb La Mt

/-- Block g alone has been written. -/
structure But (g : Nat) (w w' : World) : Prop where
  os : w'.os = w.os
  tape : w'.tape = w.tape
  output : w'.output = w.output
  size : w.heap.size ≤ w'.heap.size
  block : ∀ k, k < w.heap.size → k ≠ g → w'.heap[k]? = w.heap[k]?
theorem But.refl (g : Nat) (w : World) : But g w w := ⟨rfl, rfl, rfl, Nat.le_refl _, fun _ _ _ => rfl⟩
theorem But.trans {g : Nat} {a b c : World} (h : But g a b) (k : But g b c) : But g a c :=
  ⟨k.os.trans h.os, k.tape.trans h.tape, k.output.trans h.output, Nat.le_trans h.size k.size, fun j hj hn => (k.block j (Nat.lt_of_lt_of_le hj h.size) hn).trans (h.block j hj hn)⟩
theorem But.of_below {g : Nat} {w w' : World} (h : Below w.heap.size w w') : But g w w' := ⟨h.os, h.tape, h.output, h.size, fun k hk _ => h.block k hk⟩
theorem But.drew {g : Nat} {a w : World} (h : But g a w) : But g a w.drew := ⟨h.os, h.tape, h.output, h.size, h.block⟩
theorem But.setCell {g : Nat} {a w : World} (h : But g a w) (o : Nat) (u : Value) : But g a (w.setCell ⟨g, o, none⟩ u) :=
  ⟨h.os, h.tape, h.output, by simpa using h.size, fun k hk hn => (Below.heap_setCell _ _ _ _ hn).trans (h.block k hk hn)⟩
theorem But.below {g B : Nat} {w w' : World} (h : But g w w') (hB : B ≤ g) (hs : B ≤ w.heap.size) : Below B w w' := ⟨h.os, h.tape, h.output, h.size, fun k hk => h.block k (by omega) (by omega)⟩
theorem But.cell {g : Nat} {w w' : World} (h : But g w w') {b o : Nat} {v : Value} (hb : b ≠ g) (hc : w.cell? ⟨b, o, none⟩ = some v) : w'.cell? ⟨b, o, none⟩ = some v :=
  (World.cell?_of_block (h.block b (World.block_lt_of_cell? w _ hc) hb)).trans hc
theorem OwnV.but {g : Nat} {w w' : World} {B n : Nat} {A : Option Addr} {V : Nat → Value} (h : OwnV w B A n V) (hb : But g w w') (hg : g < B) : OwnV w' B A n V := fun hp => by
  obtain ⟨b, off, rfl, h1, h2, hc, hf⟩ := h hp
  exact ⟨b, off, rfl, h1, by have := hb.size; omega, fun i hi => (World.cell?_of_block (w := w) (hb.block b h2 (by omega))).trans (hc i hi), fun i => (World.frozen?_of_block (w := w) (hb.block b h2 (by omega))).trans (hf i)⟩
theorem Vals.but {g : Nat} {w w' : World} {B n : Nat} {A : Option Addr} {V : Nat → Value} (h : Vals w B A n V) (hb : But g w w') (hg : B ≤ g) : Vals w' B A n V := fun hp => by
  obtain ⟨b, off, rfl, h1, hc⟩ := h hp
  exact ⟨b, off, rfl, h1, fun i hi => (hb.cell (by omega) (hc i hi))⟩
end Go.Proofs.Ytaoknbhpjnileaa.Ks
