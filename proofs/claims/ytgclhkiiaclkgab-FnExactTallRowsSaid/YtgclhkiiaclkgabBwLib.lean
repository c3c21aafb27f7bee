/- What the written laws lean on: a world in which one block alone has been written, and how each fact is carried over it; the law's measure, marks and held marks of numbers. -/
import Derived.Test.YtgclhkiiaclkgabGeLib
import Derived.Test.YtgclhkiiaclkgabIsLib
import Derived.Test.YtgclhkiiaclkgabQbLib
import Derived.Deep.Slices
namespace Go.Proofs.Ytgclhkiiaclkgab.Bw
open Go.RowKit Ft Is Ge Qb

/-- Block g alone has been written. -/
structure But (g : Nat) (w w' : World) : Prop where
  os : w'.os = w.os
  tape : w'.tape = w.tape
  output : w'.output = w.output
  size : w.heap.size ≤ w'.heap.size
  block : ∀ k, k < w.heap.size → k ≠ g → w'.heap[k]? = w.heap[k]?
theorem But.refl (g : Nat) (w : World) : But g w w := ⟨rfl, rfl, rfl, Nat.le_refl _, fun _ _ _ => rfl⟩
theorem But.trans {g : Nat} {a b c : World} (h : But g a b) (k : But g b c) : But g a c :=
  ⟨k.os.trans h.os, k.tape.trans h.tape, k.output.trans h.output, Nat.le_trans h.size k.size, fun j hj hn => (k.block j (Nat.lt_of_lt_of_le hj h.size) hn).trans (h.block j hj hn)⟩
theorem But.of_below {g : Nat} {w w' : World} (h : Below w.heap.size w w') : But g w w' := ⟨h.os, h.tape, h.output, h.size, fun k hk _ => h.block k hk⟩
theorem But.of_base {g : Nat} {w w' : World} (h : Below g w w') (hs : w.heap.size = g + 1) : But g w w' := ⟨h.os, h.tape, h.output, h.size, fun k hk hn => h.block k (by omega)⟩
theorem But.setCell {g : Nat} {a w : World} (h : But g a w) (o : Nat) (u : Value) : But g a (w.setCell ⟨g, o, none⟩ u) :=
  ⟨h.os, h.tape, h.output, by simpa using h.size, fun k hk hn => (Below.heap_setCell _ _ _ _ hn).trans (h.block k hk hn)⟩
theorem But.below {g B : Nat} {w w' : World} (h : But g w w') (hB : B ≤ g) (hs : B ≤ w.heap.size) : Below B w w' := ⟨h.os, h.tape, h.output, h.size, fun k hk => h.block k (by omega) (by omega)⟩
theorem But.cell {g : Nat} {w w' : World} (h : But g w w') {b o : Nat} {v : Value} (hb : b ≠ g) (hc : w.cell? ⟨b, o, none⟩ = some v) : w'.cell? ⟨b, o, none⟩ = some v :=
  (World.cell?_of_block (h.block b (World.block_lt_of_cell? w _ hc) hb)).trans hc
theorem blk_but {g k : Nat} {w w' : World} {o : Obj} (ho : w.heap[k]? = some o) (h : But g w w') (hk : k ≠ g) : w'.heap[k]? = some o := (h.block k (lt_of_heap ho) hk).trans ho
theorem own_but {g B n : Nat} {w w' : World} {A : Option Addr} {f : Nat → Int} (ho : Own w B A n f) (h : But g w w') (hg : g < B) : Own w' B A n f := fun hn => by
  obtain ⟨b, off, rfl, hB, hlt, hc, hf⟩ := ho hn
  have hne : b ≠ g := by omega
  exact ⟨b, off, rfl, hB, Nat.lt_of_lt_of_le hlt h.size, fun i hi => h.cell hne (hc i hi), fun i => (World.frozen?_of_block (a := ⟨b, i, none⟩) (h.block b hlt hne)).trans (hf i)⟩
theorem nums_but {g B n : Nat} {w w' : World} {A : Option Addr} {f : Nat → Int} (ho : Nums w B A n f) (h : But g w w') (hg : B ≤ g) : Nums w' B A n f := fun hn => by
  obtain ⟨b, off, rfl, hB, hc⟩ := ho hn
  exact ⟨b, off, rfl, hB, fun i hi => h.cell (by omega) (hc i hi)⟩
theorem at_but {g k n : Nat} {w w' : World} {f : Nat → Int} (ho : At w k n f) (h : But g w w') (hg : k ≠ g) : At w' k n f :=
  ⟨Nat.lt_of_lt_of_le ho.1 h.size, fun i hi => h.cell hg (ho.2.1 i hi), fun i => (World.frozen?_of_block (a := ⟨k, i, none⟩) (h.block k ho.1 hg)).trans (ho.2.2 i)⟩
theorem own_later {w' : World} {B B' : Nat} {A : Option Addr} {n : Nat} {f : Nat → Int} (h : Own w' B' A n f) (hs : B ≤ B') : Own w' B A n f := fun hp => by
  obtain ⟨b, off, e, h1, h2, h3, h4⟩ := h hp
  exact ⟨b, off, e, by omega, h2, h3, h4⟩
theorem keep_of {w2 w' : World} {g i : Nat} {v : Value} (hb : Below w2.heap.size w2 w') (hg : g < w2.heap.size) (h : w2.cell? ⟨g, i, none⟩ = some v) : w'.cell? ⟨g, i, none⟩ = some v := (hb.cell (p := ⟨g, i, none⟩) hg).trans h
/-- Numbers, by place. -/
def of4 (a b c d : Int) : Nat → Int
  | 0 => a
  | 1 => b
  | 2 => c
  | _ => d
def of5 (a b c d e : Int) : Nat → Int
  | 0 => a
  | 1 => b
  | 2 => c
  | 3 => d
  | _ => e
theorem wf4 {a b c d : Int} (h0 : (Lit.int .i64 a).wf = true) (h1 : (Lit.int .i64 b).wf = true) (h2 : (Lit.int .i64 c).wf = true) (h3 : (Lit.int .i64 d).wf = true) : ∀ j, j < 4 → (Lit.int .i64 (of4 a b c d j)).wf = true := fun j hj => by
  obtain rfl | rfl | rfl | rfl : j = 0 ∨ j = 1 ∨ j = 2 ∨ j = 3 := by omega
  · exact h0
  · exact h1
  · exact h2
  · exact h3
theorem held_same (A : Option Addr) (n c : Nat) (k0 : Int) (hn : n ≤ 1048576) (h0 : 0 ≤ k0) (h1 : k0 ≤ 1048576) (w : World) (h : Nums w w.heap.size A n (mk k0)) :
    Calls Try.prog 32 #[.slice A n c, .int .i64 k0] w fun e w' => e = .returned (.int .i64 (mk k0 n)) ∧ Below w.heap.size w w' :=
  (held_ints A n c k0 hn h0 h1 w.heap.size w h).mono fun _ _ ⟨h, e⟩ => ⟨h, by rw [← e]; exact Below.refl _ _⟩
/-- The row part of which has been marked. -/
theorem at_part {w : World} {g n j : Nat} {k0 : Int} {f : Nat → Int} (h : At w g n (Is.part k0 f j)) (hj : j < n) : At (w.setCell ⟨g, j, none⟩ (.int .i64 (Is.mk k0 j))) g n (Is.part k0 f (j + 1)) :=
  ⟨by simpa using h.1, fun i hi => by
    by_cases e : i = j
    · subst e
      rw [World.cell?_setCell_same _ _ _ (h.2.1 i hi)]
      simp [Is.part]
    · rw [World.cell?_setCell_other _ _ _ _ (show (⟨g, j, none⟩ : Addr) ≠ ⟨g, i, none⟩ from fun q => by have := (Addr.mk.inj q).2.1; omega), h.2.1 i hi]
      have : Is.part k0 f j i = Is.part k0 f (j + 1) i := by
        unfold Is.part
        by_cases h : i < j
        · rw [if_pos h, if_pos (by omega)]
        · rw [if_neg h, if_neg (by omega)]
      rw [this], fun i => (World.frozen?_setCell _ _ _ _).trans (h.2.2 i)⟩
/-- The law's marks in a copy. -/
theorem mark_at (g n c : Nat) (k0 : Int) (f : Nat → Int) (hn : n ≤ 1048576) (h0 : 0 ≤ k0) (h1 : k0 ≤ 1073741824) (w : World) (h : At w g n f) :
    Calls Try.prog 31 #[.slice (some ⟨g, 0, none⟩) n c, .int .i64 k0] w fun e w' => e = .returned (.int .i64 (k0 + (n : Int))) ∧ But g w w' := by
  have HO : Hid (At w g n (Is.part k0 f 0)) := Lib.hid ⟨h.1, fun i hi => by rw [h.2.1 i hi]; simp [Is.part], h.2.2⟩
  clear h
  go_enter Try.func31, Try.ntmps31
  go_wp2_with fail
  go_loopw [1, 5] (fun kk i wr => ∃ j : Nat, j ≤ n ∧ i = .int .i64 j ∧ kk = .int .i64 (k0 + (j : Int)) ∧ But g w wr ∧ Hid (At wr g n (Is.part k0 f j))) (fun _ i _ => n - (intOf i).toNat)
  case atStart => exact ⟨0, Nat.zero_le _, rfl, by simp, But.refl _ _, HO⟩
  case round =>
    obtain ⟨j, hj, rfl, rfl, hbut, hat⟩ := hrel
    have HB := Lib.hid hbut
    by_cases hlt : j < n
    · have x0 := hat.out.2.1 j hlt
      have z0 := hat.out.2.2 j
      have HN := Lib.hid (at_part (k0 := k0) (f := f) hat.out hlt)
      have HM : Hid (Is.mk k0 j = k0 + (j : Int)) := Lib.hid rfl
      clear hbut hj
      generalize Is.part k0 f j j = old at x0
      go_wp2_with fail
      rw [HM.out] at HN
      have HQ := Lib.hid (HB.out.setCell j (.int .i64 (k0 + (j : Int))))
      go_roundw
      case rel => exact ⟨j + 1, by omega, by go_num, by go_num, HQ.out, HN⟩
      case measure => simp [intOf]; omega
    · obtain rfl : j = n := by omega
      go_wp2_with fail
      go_ret
      exact ⟨rfl, HB.out⟩
end Go.Proofs.Ytgclhkiiaclkgab.Bw
